"""The tales of cells: all edits that ever wrote into them, and who wrote what is shown."""

from tablemates.actions import is_cell_in
from tablemates.contents import write_content
from tablemates.effects import in_force
from tablemates.errors import OutOfRange
from tablemates.keeping import place_content
from tablemates.states import grid_of
from tablemates.view import View
from tablemates.writes import shown_writes


def _view_now(begin, edits):
    return View(begin, edits, in_force(edits))


def _state(edit_id, shown, forced):
    if edit_id in shown:
        return "shown"
    return "covered" if edit_id in forced else "undone"


def tale(begin, edits, cell):
    """The list of the tuples (id, string, state) of the edits that ever wrote into a cell."""
    view = _view_now(begin, edits)
    rows = view.live("row")
    columns = view.live("column")
    if not is_cell_in(len(rows), len(columns), cell):
        raise OutOfRange("cell")
    lines = (rows[cell[0]], columns[cell[1]])
    shown = [edit_id for edit_id, _ in shown_writes(view, lines[0], lines[1])]
    found = []
    for edit_id, seen, action in view.edits:
        if action[0] == "write":
            for row, column, content in action[1]:
                if (row, column) == lines:
                    text = write_content(place_content(view, seen, content))
                    found.append((edit_id, text, _state(edit_id, shown, view.forced)))
    return found


def authors(begin, edits):
    """The dict from the cells that are not blank to the sorted list of the persons who wrote what is shown."""
    view = _view_now(begin, edits)
    rows = view.live("row")
    columns = view.live("column")
    found = {}
    for row, column in grid_of(view).cells():
        writes = shown_writes(view, rows[row], columns[column])
        found[(row, column)] = sorted(set([edit_id[0] for edit_id, _ in writes]))
    return found
