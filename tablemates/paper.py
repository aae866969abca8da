"""Papers: evidence for everything that a grid shows."""

from heapq import heappop, heappush

from tablemates.contents import write_content
from tablemates.decimals import show
from tablemates.rings import cells_in_rings, knots_in, readers_of, reads_of, ring_of, values_of


def value_text(value):
    """The string of a value that is not blank."""
    if value[0] == "text":
        return "'" + value[1]
    if value[0] == "number":
        return show(value[1])
    return "!" + value[1]


def _names_told(grid):
    """The list of the tuples (word, areas) of the names, sorted by word."""
    found = []
    for word in grid.words():
        areas = grid.areas(word)
        found.append((word, None if areas is None else tuple(areas)))
    return found


def _rings_told(grid, reads):
    """The rings of the cells that depend on themselves, none for a cell that stands in one before."""
    found = []
    told = {}
    for cell in cells_in_rings(reads):
        if cell not in told:
            ring = ring_of(grid, cell)
            found.append(ring)
            for other in ring:
                told[other] = True
    return found


def _first_cells(reads):
    """The dict from each cell to the first one of its knot."""
    first = {cell: cell for cell in reads}
    for knot in knots_in(reads):
        for cell in knot:
            first[cell] = knot[0]
    return first


def _knot_by_knot(reads):
    """The cells in the order of their entries."""
    readers = readers_of(reads)
    first = _first_cells(reads)
    # By the first cell of a knot: its cells, and how often they read cells outside that have no entry yet.
    knots = {}
    missing = {}
    for cell in sorted(reads):
        start = first[cell]
        knots.setdefault(start, []).append(cell)
        outside = [other for other in reads[cell] if other in reads and first[other] != start]
        missing[start] = missing.get(start, 0) + len(outside)
    # They come sorted, and a sorted list is a heap.
    ready = [start for start in missing if missing[start] == 0]
    found = []
    while ready != []:
        knot = knots[heappop(ready)]
        found.extend(knot)
        for start in [first[reader] for cell in knot for reader in readers.get(cell, [])]:
            if start != knot[0]:
                missing[start] = missing[start] - 1
                if missing[start] == 0:
                    heappush(ready, start)
    return found


def _entry(grid, values, cell):
    texts = tuple([write_content(content) for content in grid.shown(cell)])
    return (cell[0], cell[1], texts, value_text(values[cell]))


def paper_of(grid):
    """The paper of a grid, as a tuple (rows, columns, names, rings, entries)."""
    reads = reads_of(grid)
    values = values_of(grid)
    entries = [_entry(grid, values, cell) for cell in _knot_by_knot(reads)]
    return (grid.rows, grid.columns, _names_told(grid), _rings_told(grid, reads), entries)
