"""What leads from what was shown at one version to what was shown at another one."""

from tablemates.grids import with_line, without_line
from tablemates.looking import view_at
from tablemates.reading import NO_NAME, cells_of, told_of
from tablemates.states import grid_of
from tablemates.wire import AXES


def _lines_records(before, after):
    """The records of the lines of two views that only one of them has."""
    found = []
    for axis in AXES:
        for index, line in reversed(list(enumerate(before.live(axis)))):
            if after.index(axis, line) is None:
                found.append(("deleted", axis, index))
    for axis in AXES:
        for index, line in enumerate(after.live(axis)):
            if before.index(axis, line) is None:
                found.append(("inserted", axis, index))
    return found


def _cells_records(before, after, old_grid, new_grid):
    """The records of the cells of the second view in which something else is shown than in the first one."""
    rows = after.live("row")
    columns = after.live("column")
    found = []
    for cell in cells_of((0, 0, new_grid.rows - 1, new_grid.columns - 1)):
        old_cell = (before.index("row", rows[cell[0]]), before.index("column", columns[cell[1]]))
        old = [] if None in old_cell else old_grid.shown(old_cell)
        if new_grid.shown(cell) != old:
            found.append(("cell", cell, new_grid.shown(cell)))
    return found


def _names_records(old_grid, new_grid):
    """The records of the words that are a name in one of two grids with other areas than in the other one."""
    found = []
    for word in sorted(set(old_grid.words() + new_grid.words())):
        areas = told_of(new_grid, word)
        if areas != told_of(old_grid, word):
            found.append(("name", word, areas))
    return found


def difference(begin, edits, first, second):
    """The difference of one known version to another one; raises UnknownVersion."""
    before = view_at(begin, edits, first)
    after = view_at(begin, edits, second)
    old_grid = grid_of(before)
    new_grid = grid_of(after)
    records = _lines_records(before, after) + _cells_records(before, after, old_grid, new_grid)
    return records + _names_records(old_grid, new_grid)


def _set_shown(grid, record):
    """Sets the cell or the name of a record."""
    kind, place, told = record
    if kind == "cell":
        grid.put(place, told)
    elif told == NO_NAME:
        grid.unname(place)
    else:
        grid.name(place, told)


def led(grid, records):
    """The grid to which a difference leads from a grid."""
    found = grid.copy()
    for record in records:
        if record[0] == "deleted":
            found = without_line(found, record[1], record[2])
        elif record[0] == "inserted":
            found = with_line(found, record[1], record[2])
        else:
            _set_shown(found, record)
    return found
