"""Ledgers: the values of a grid, kept while it is changed."""

from tablemates.evaluation import BLANK, value_from
from tablemates.reading import formula_of, told_of
from tablemates.rings import RING, cells_in_rings, in_sequence, reads_of, ring_cells, values_of
from tablemates.trees import areas_of


def _naming(grid, word):
    """The list of the cells with a formula in which the word stands as a name."""
    found = []
    for cell in grid.cells():
        tree = formula_of(grid, cell)
        if tree is not None and ("name", word) in areas_of(tree):
            found.append(cell)
    return found


def _differ(values, others, cells):
    """Whether one of the cells has different values in two dicts."""
    return any([values.get(cell, BLANK) != others.get(cell, BLANK) for cell in cells])


class Ledger:
    """A copy of a grid with its values, of which each change works out as few as it can."""

    def __init__(self, grid):
        self._grid = grid.copy()
        self._values = values_of(grid)
        self._rings = ring_cells(grid)
        self._counted = []

    def put(self, cell, shown):
        """Sets the list of the placed contents of a cell."""
        before = self._grid.shown(cell)
        self._grid.put(cell, shown)
        self._settle([] if self._grid.shown(cell) == before else [cell])

    def name(self, word, areas):
        """Sets the list of the areas of a name, or None for a clash."""
        before = told_of(self._grid, word)
        self._grid.name(word, areas)
        self._settle_name(word, before)

    def unname(self, word):
        """Takes a name away, if the word is one."""
        before = told_of(self._grid, word)
        self._grid.unname(word)
        self._settle_name(word, before)

    def _settle_name(self, word, before):
        self._settle([] if told_of(self._grid, word) == before else _naming(self._grid, word))

    def _settle(self, changed):
        """Works out the values behind a change of what these cells show, or of a name in their formulas."""
        reads = reads_of(self._grid)
        rings = cells_in_rings(reads)
        values = {cell: RING for cell in rings}
        suspects = {cell: True for cell in changed + self._rings}
        rest = {cell: reads[cell] for cell in reads if cell not in values}
        counted = []
        for cell in in_sequence(rest):
            if cell not in suspects and not _differ(values, self._values, reads[cell]):
                values[cell] = self._values[cell]
                continue
            values[cell] = value_from(self._grid, cell, values)
            if formula_of(self._grid, cell) is not None:
                counted.append(cell)
        self._values = values
        self._rings = rings
        self._counted = sorted(counted)

    def value(self, cell):
        """The value of a cell now."""
        return self._values.get(cell, BLANK)

    def all_values(self):
        """The dict from all cells that are not blank to their values now."""
        return {cell: self._values[cell] for cell in self._grid.cells()}

    def counted(self):
        """The sorted list of the cells whose formula was evaluated for the last change."""
        return list(self._counted)
