"""What views show, as grids."""

from tablemates.grids import Grid
from tablemates.keeping import place_blocks, place_content
from tablemates.writes import all_shown_writes, shown_names, words_told


def _put_cells(grid, view, seen):
    """Puts the placed contents of the shown writes into the cells of live lines."""
    for lines, writes in all_shown_writes(view).items():
        cell = (view.index("row", lines[0]), view.index("column", lines[1]))
        if None not in cell:
            grid.put(cell, [place_content(view, seen[edit_id], content) for edit_id, content in writes])


def _put_names(grid, view, seen):
    for word in words_told(view):
        tellings = shown_names(view, word)
        if len(tellings) > 1:
            grid.name(word, None)
        elif tellings[0][1] != ():
            edit_id, blocks = tellings[0]
            grid.name(word, place_blocks(view, seen[edit_id], blocks))


def grid_of(view):
    """The grid that a view shows."""
    grid = Grid(len(view.live("row")), len(view.live("column")))
    seen = {edit_id: version for edit_id, version, _ in view.edits}
    _put_cells(grid, view, seen)
    _put_names(grid, view, seen)
    return grid
