"""Which cells a cell reads."""

from tablemates.errors import UnknownName
from tablemates.trees import areas_of, named_cells

# What is told of a word that is no name.
NO_NAME = "none"


def told_of(grid, word):
    """The list of the areas of a name, None for a clash, a word of its own if it is no name of the grid."""
    try:
        return grid.areas(word)
    except UnknownName:
        return NO_NAME


def blocks_of(grid, area):
    """The list of the blocks of an area, as tuples (top, left, bottom, right)."""
    areas = [area]
    if area[0] == "name":
        told = told_of(grid, area[1])
        areas = [] if told is None or told == NO_NAME else told
    return [one[1:] for one in areas if one[0] == "block"]


def cells_of(block):
    """The list of the cells of a block, row by row."""
    top, left, bottom, right = block
    return [(row, column) for row in range(top, bottom + 1) for column in range(left, right + 1)]


def formula_of(grid, cell):
    """The tree of the one content that is shown in a cell, None if that is no formula."""
    shown = grid.shown(cell)
    if len(shown) == 1 and shown[0][0] == "formula":
        return shown[0][1]
    return None


def cells_read(grid, cell):
    """The sorted list of the cells that a cell reads, each once."""
    tree = formula_of(grid, cell)
    if tree is None:
        return []
    found = named_cells(tree)
    for area in areas_of(tree):
        for block in blocks_of(grid, area):
            found.extend(cells_of(block))
    return sorted(set(found))
