"""Grids: what is shown of a sheet at one time."""

from tablemates.errors import UnknownName


class Grid:
    """So many rows and columns, the contents that are shown in each cell, and names."""

    def __init__(self, rows, columns):
        self.rows = rows
        self.columns = columns
        # Only cells that are not blank stand here.
        self._contents = {}
        self._names = {}

    def put(self, cell, shown):
        """Sets the list of the placed contents of a cell."""
        if shown == [] or shown == [("blank",)]:
            self._contents.pop(cell, None)
        else:
            self._contents[cell] = list(shown)

    def shown(self, cell):
        """The list of the placed contents of a cell, empty for a blank one."""
        return list(self._contents.get(cell, []))

    def name(self, word, areas):
        """Sets the list of the areas of a name, or None for a clash."""
        self._names[word] = None if areas is None else list(areas)

    def unname(self, word):
        """Takes a name away, if the word is one."""
        self._names.pop(word, None)

    def areas(self, word):
        """The list of the areas of a name, None for a clash; raises UnknownName."""
        if word not in self._names:
            raise UnknownName(word)
        areas = self._names[word]
        return None if areas is None else list(areas)

    def cells(self):
        """The list of the cells that are not blank, row by row."""
        return sorted(self._contents)

    def words(self):
        """The sorted list of the names."""
        return sorted(self._names)

    def copy(self):
        """A grid with the same size, contents and names, that shares nothing with this one."""
        other = Grid(self.rows, self.columns)
        for cell in self._contents:
            other.put(cell, self._contents[cell])
        for word in self._names:
            other.name(word, self._names[word])
        return other


def same(grid, other):
    """Whether both grids have the same size, contents and names."""
    if (grid.rows, grid.columns) != (other.rows, other.columns):
        return False
    if grid.cells() != other.cells() or grid.words() != other.words():
        return False
    if not all([grid.shown(cell) == other.shown(cell) for cell in grid.cells()]):
        return False
    return all([grid.areas(word) == other.areas(word) for word in grid.words()])


def _with_lines_moved(grid, axis, many, moved):
    """A grid with so many lines more; the function `moved` tells where a line is then, None for nowhere."""
    if axis == "row":
        found = Grid(grid.rows + many, grid.columns)
    else:
        found = Grid(grid.rows, grid.columns + many)
    for row, column in grid.cells():
        cell = (moved(row), column) if axis == "row" else (row, moved(column))
        if None not in cell:
            found.put(cell, grid.shown((row, column)))
    for word in grid.words():
        found.name(word, grid.areas(word))
    return found


def with_line(grid, axis, index):
    """The grid with a blank line put in at this index, all contents and names as they are."""
    return _with_lines_moved(grid, axis, 1, lambda line: line + 1 if line >= index else line)


def without_line(grid, axis, index):
    """The grid with the line of this index taken out, all other contents and the names as they are."""

    def moved(line):
        if line == index:
            return None
        return line - 1 if line > index else line

    return _with_lines_moved(grid, axis, -1, moved)
