"""Copies of a sheet, each with a person who edits it."""

from tablemates.actions import copy_action, delete_action, insert_action, is_cell_in, name_action
from tablemates.actions import redo_action, undo_action, write_action
from tablemates.checking import MOST_EDITS, check_more
from tablemates.contents import write_content
from tablemates.edit import PERSONS, ordered, version_of
from tablemates.effects import in_force
from tablemates.errors import ClashingEdits, OtherTable, OutOfRange, TooManyEdits
from tablemates.rings import values_of
from tablemates.states import grid_of
from tablemates.versions import counts
from tablemates.view import View
from tablemates.wire import MOST_COLUMNS, MOST_ROWS, read_update, write_update
from tablemates.writes import shown_writes


class Sheet:
    """A copy of a sheet: what it began with, and the edits that it holds."""

    def __init__(self, person, rows, columns):
        if person not in PERSONS:
            raise OutOfRange("person")
        if not 0 <= rows <= MOST_ROWS:
            raise OutOfRange("rows")
        if not 0 <= columns <= MOST_COLUMNS:
            raise OutOfRange("columns")
        self._person = person
        self._begin = (rows, columns)
        self._hold([])

    def _hold(self, edits):
        self._edits = ordered(edits)
        # Both are worked out when they are asked for.
        self._view = None
        self._grid = None

    def _present_view(self):
        if self._view is None:
            self._view = View(self._begin, self._edits, in_force(self._edits))
        return self._view

    def _present_grid(self):
        if self._grid is None:
            self._grid = grid_of(self._present_view())
        return self._grid

    def person(self):
        """The person who edits this copy."""
        return self._person

    def begin(self):
        """The tuple (rows, columns) of the beginning."""
        return self._begin

    def edits(self):
        """The list of the edits, in their order."""
        return list(self._edits)

    def version(self):
        """The version of the edits."""
        return version_of(self._edits)

    def copy_for(self, person):
        """A new copy with the same edits for a person."""
        other = Sheet(person, self._begin[0], self._begin[1])
        other._hold(self._edits)
        return other

    def _check_room(self):
        if len(self._edits) >= MOST_EDITS:
            raise TooManyEdits()

    def _make(self, action):
        """Makes an edit with this action, and returns its id."""
        seen = self.version()
        edit_id = (self._person, seen[self._person - 1] + 1)
        self._hold(self._edits + [(edit_id, seen, action)])
        return edit_id

    def insert(self, axis, index):
        """Inserts a line, and returns the id of the edit."""
        self._check_room()
        return self._make(insert_action(self._present_view(), axis, index))

    def delete(self, axis, index):
        """Deletes the line with an index, and returns the id of the edit."""
        self._check_room()
        return self._make(delete_action(self._present_view(), axis, index))

    def write(self, cell, text):
        """Writes a text into a cell, and returns the id of the edit."""
        return self.write_block(cell, [[text]])

    def write_block(self, cell, texts):
        """Writes rows of texts, from an upper left cell on, and returns the id of the edit."""
        self._check_room()
        return self._make(write_action(self._present_view(), cell, texts))

    def copy(self, block, cell):
        """Copies a block to an upper left cell, and returns the id of the edit."""
        self._check_room()
        return self._make(copy_action(self._present_view(), block, cell))

    def name(self, word, blocks):
        """Names a word as a list of blocks, and returns the id of the edit."""
        self._check_room()
        return self._make(name_action(self._present_view(), word, blocks))

    def undo(self):
        """Undoes the person's own last edit, and returns the id of the new one."""
        self._check_room()
        return self._make(undo_action(self._edits, self._person))

    def redo(self):
        """Takes back the last undo, and returns the id of the edit."""
        self._check_room()
        return self._make(redo_action(self._edits, self._person))

    def grid(self):
        """The grid that is shown."""
        return self._present_grid().copy()

    def all_values(self):
        """The dict from all cells that are not blank to their values."""
        return values_of(self._present_grid())

    def _check_cell(self, cell):
        grid = self._present_grid()
        if not is_cell_in(grid.rows, grid.columns, cell):
            raise OutOfRange("cell")

    def texts(self, cell):
        """The list of the strings of the contents that are shown in a cell."""
        self._check_cell(cell)
        return [write_content(content) for content in self._present_grid().shown(cell)] or [""]

    def writers(self, cell):
        """The list of the ids of the shown writes of a cell."""
        self._check_cell(cell)
        view = self._present_view()
        writes = shown_writes(view, view.live("row")[cell[0]], view.live("column")[cell[1]])
        return [edit_id for edit_id, _ in writes]

    def update(self, version):
        """The bytes of the update of the edits that the version does not count."""
        return write_update(self._begin, [edit for edit in self._edits if not counts(version, edit[0])])

    def take(self, data):
        """Takes an update, and returns how many of its edits were new."""
        begin, edits = read_update(data)
        if begin != self._begin:
            raise OtherTable()
        held = {edit[0]: edit for edit in self._edits}
        for edit in edits:
            if edit[0] in held and held[edit[0]] != edit:
                raise ClashingEdits(edit[0])
        more = [edit for edit in edits if edit[0] not in held]
        check_more(self._begin, self._edits, more)
        self._hold(self._edits + more)
        return len(more)
