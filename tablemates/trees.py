"""Trees of formulas, placed or kept, and the areas in them."""

from tablemates.tokens import LONGEST_WORD, SMALL

CALLS = ("sum", "count", "min", "max")
SUMS = ("+", "-")
PRODUCTS = ("*", "/")
OPERATORS = ("+", "-", "*", "/")
GONE = "gone"
SHORTEST_NAME = 2


def is_name_word(text):
    """Whether the string can be a name of areas."""
    if not SHORTEST_NAME <= len(text) <= LONGEST_WORD:
        return False
    if text in CALLS or text == GONE:
        return False
    return all([character in SMALL for character in text])


def size(tree):
    """The number of trees and areas in the tree, itself counted."""
    if tree[0] == "neg":
        return 1 + size(tree[1])
    if tree[0] == "op":
        return 1 + size(tree[2]) + size(tree[3])
    if tree[0] == "call":
        return 1 + len(tree[2])
    return 1


def named_cells(tree):
    """The list of the tuples (row, column) of the cells, as they stand when it is written."""
    if tree[0] == "cell":
        return [(tree[1], tree[2])]
    if tree[0] == "neg":
        return named_cells(tree[1])
    if tree[0] == "op":
        return named_cells(tree[2]) + named_cells(tree[3])
    return []


def areas_of(tree):
    """The list of the areas, as they stand when the tree is written."""
    if tree[0] == "call":
        return list(tree[2])
    if tree[0] == "neg":
        return areas_of(tree[1])
    if tree[0] == "op":
        return areas_of(tree[2]) + areas_of(tree[3])
    return []


def _mapped_areas(areas, area):
    found = []
    for old in areas:
        found.extend(area(old))
    if found == []:
        return ((GONE,),)
    return tuple(found)


def mapped(tree, cell, area):
    """The tree with other trees for its cells and other areas, as these functions return them.

    The function `cell` returns a tree for a cell, the function `area` a tuple of areas for one.
    """
    if tree[0] == "cell":
        return cell(tree)
    if tree[0] == "neg":
        return ("neg", mapped(tree[1], cell, area))
    if tree[0] == "op":
        return ("op", tree[1], mapped(tree[2], cell, area), mapped(tree[3], cell, area))
    if tree[0] == "call":
        return ("call", tree[1], _mapped_areas(tree[2], area))
    return tree
