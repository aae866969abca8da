"""Cells that depend on themselves, and the values of grids."""

from tablemates.evaluation import value_from
from tablemates.reading import cells_read

RING = ("fault", "ring")


def reads_of(grid):
    """The dict from each cell that is not blank to the list of the cells that it reads."""
    return {cell: cells_read(grid, cell) for cell in grid.cells()}


def readers_of(reads):
    """The dict from each cell that is read to the list of the cells that read it."""
    readers = {}
    for cell in reads:
        for other in reads[cell]:
            readers.setdefault(other, []).append(cell)
    return readers


def in_sequence(reads):
    """The cells of this dict, each behind those of them that it reads; those that lead into a ring are left out."""
    readers = readers_of(reads)
    missing = {cell: len([other for other in reads[cell] if other in reads]) for cell in reads}
    found = [cell for cell in reads if missing[cell] == 0]
    at = 0
    while at < len(found):
        cell = found[at]
        for reader in readers.get(cell, []):
            missing[reader] = missing[reader] - 1
            if missing[reader] == 0:
                found.append(reader)
        at = at + 1
    return found


def _reached(steps, start):
    """The dict of the cells to which one or more steps lead from a cell."""
    found = {}
    waiting = [start]
    while waiting != []:
        cell = waiting.pop()
        for other in steps.get(cell, []):
            if other not in found:
                found[other] = True
                waiting.append(other)
    return found


def knots_in(reads):
    """The list of the knots of the cells of this dict that depend on themselves, each as a sorted list."""
    readers = readers_of(reads)
    safe = {cell: True for cell in in_sequence(reads)}
    told = {}
    found = []
    for cell in reads:
        if cell not in safe and cell not in told:
            # The cells that it reads over some steps, and that read it over some, stand in a row with it.
            behind = _reached(readers, cell)
            knot = sorted([other for other in _reached(reads, cell) if other in behind])
            if knot != []:
                found.append(knot)
            for other in knot:
                told[other] = True
    return found


def cells_in_rings(reads):
    """The sorted list of the cells of this dict that depend on themselves."""
    return sorted([cell for knot in knots_in(reads) for cell in knot])


def ring_cells(grid):
    """The sorted list of the cells that depend on themselves."""
    return cells_in_rings(reads_of(grid))


def _steps_to(reads, cell):
    """The dict from the cells that lead to a cell to the least number of their steps to it."""
    readers = readers_of(reads)
    steps = {cell: 0}
    found = [cell]
    at = 0
    while at < len(found):
        last = found[at]
        for reader in readers.get(last, []):
            if reader not in steps:
                steps[reader] = steps[last] + 1
                found.append(reader)
        at = at + 1
    return steps


def ring_of(grid, cell):
    """The ring of a cell as a list of cells, None if it does not depend on itself."""
    reads = reads_of(grid)
    steps = _steps_to(reads, cell)
    left = min([steps[other] for other in reads.get(cell, []) if other in steps], default=None)
    if left is None:
        return None
    ring = [cell]
    while left > 0:
        # The least cell that is near enough gives the first of the shortest rows.
        ring.append(min([other for other in reads[ring[-1]] if steps.get(other) == left]))
        left = left - 1
    return ring


def values_of(grid):
    """The dict from all cells that are not blank to their values."""
    reads = reads_of(grid)
    values = {cell: RING for cell in cells_in_rings(reads)}
    rest = {cell: reads[cell] for cell in reads if cell not in values}
    for cell in in_sequence(rest):
        values[cell] = value_from(grid, cell, values)
    return {cell: values[cell] for cell in reads}
