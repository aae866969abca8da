"""An ordinary spreadsheet: a grid and no edits."""

from tablemates.actions import check_delete, check_insert, check_name, copied_cells, written_cells
from tablemates.grids import Grid, with_line, without_line
from tablemates.keeping import GONE_PART, with_tree
from tablemates.trees import mapped


def _line_behind_insert(line, place):
    return line + 1 if line >= place else line


def _lines_behind_insert(first, last, place):
    """The first and the last line of a block: it is widened by a line between them."""
    return (_line_behind_insert(first, place), _line_behind_insert(last, place))


def _line_behind_delete(line, place):
    """Where a line is, None for the deleted one."""
    if line == place:
        return None
    return line - 1 if line > place else line


def _lines_behind_delete(first, last, place):
    """The first and the last line of a block, None if it has no line any more."""
    if first == last == place:
        return None
    return (first - 1 if first > place else first, last - 1 if last >= place else last)


def _moved_cell(cell, axis, move):
    """A cell of a formula, with the row or the column that the function `move` tells for its own."""
    row, column = cell[1:]
    if axis == "row":
        row = move(row)
    else:
        column = move(column)
    return GONE_PART if row is None or column is None else ("cell", row, column)


def _moved_area(area, axis, move):
    """An area, with the lines that the function `move` tells for the first and the last one of a block."""
    if area[0] != "block":
        return area
    top, left, bottom, right = area[1:]
    lines = move(top, bottom) if axis == "row" else move(left, right)
    if lines is None:
        return GONE_PART
    if axis == "row":
        return ("block", lines[0], left, lines[1], right)
    return ("block", top, lines[0], bottom, lines[1])


def _moved_tree(tree, axis, move_line, move_lines):
    return mapped(tree, lambda cell: _moved_cell(cell, axis, move_line),
                  lambda area: (_moved_area(area, axis, move_lines),))


def _moved_areas(areas, axis, move_lines):
    """The areas of a name: those that are gone are dropped, but for the last one."""
    found = [_moved_area(area, axis, move_lines) for area in areas]
    return [area for area in found if area != GONE_PART] or [GONE_PART]


def _adapt(grid, axis, move_line, move_lines):
    """Lets all formulas and names of a grid tell the lines where they are now."""
    for cell in grid.cells():
        content = with_tree(grid.shown(cell)[0], lambda tree: _moved_tree(tree, axis, move_line, move_lines))
        grid.put(cell, [content])
    for word in grid.words():
        grid.name(word, _moved_areas(grid.areas(word), axis, move_lines))


class Plain:
    """An ordinary spreadsheet with so many rows and columns, all blank at first."""

    def __init__(self, rows, columns):
        self._grid = Grid(rows, columns)

    def _many(self, axis):
        return self._grid.rows if axis == "row" else self._grid.columns

    def insert(self, axis, index):
        """Inserts a line."""
        check_insert(self._many(axis), axis, index)
        self._grid = with_line(self._grid, axis, index)
        _adapt(self._grid, axis, lambda line: _line_behind_insert(line, index),
               lambda first, last: _lines_behind_insert(first, last, index))

    def delete(self, axis, index):
        """Deletes the line with an index."""
        check_delete(self._many(axis), index)
        self._grid = without_line(self._grid, axis, index)
        _adapt(self._grid, axis, lambda line: _line_behind_delete(line, index),
               lambda first, last: _lines_behind_delete(first, last, index))

    def _put(self, cells):
        for cell, content in cells:
            self._grid.put(cell, [content])

    def write(self, cell, text):
        """Writes a text into a cell."""
        self.write_block(cell, [[text]])

    def write_block(self, cell, texts):
        """Writes rows of texts, from an upper left cell on."""
        self._put(written_cells(self._grid.rows, self._grid.columns, cell, texts))

    def copy(self, block, cell):
        """Copies a block to an upper left cell."""
        self._put(copied_cells(self._grid, block, cell))

    def name(self, word, blocks):
        """Names a word as a list of blocks; an empty list takes the name away."""
        check_name(self._grid.rows, self._grid.columns, word, blocks)
        if blocks == []:
            self._grid.unname(word)
        else:
            self._grid.name(word, [("block",) + block for block in blocks])

    def grid(self):
        """A copy of the grid."""
        return self._grid.copy()
