"""Grids for several tests, and second ways to what they show, by the words of the document; none of this is a test."""

from fractions import Fraction

import tables
from tablemates.contents import read_content
from tablemates.grids import Grid
from tablemates.tokens import read_address

LIMIT = 10 ** 18
BLANK = ("blank",)
GONE = ("gone",)


def fault(word):
    return ("fault", word)


def number(n, d=1):
    return ("number", (n, d))


def at(address):
    """The cell of an address."""
    return read_address(address)


def contents(texts, rows, columns):
    """The placed contents of one string, or of a list of strings."""
    listed = texts if isinstance(texts, list) else [texts]
    return [read_content(text, rows, columns) for text in listed]


def grid(rows, columns, texts, names=None):
    """A grid with strings in cells: one, or a list of several for a clash."""
    found = Grid(rows, columns)
    for address, told in texts.items():
        found.put(at(address), contents(told, rows, columns))
    for word, areas in (names or {}).items():
        found.name(word, areas)
    return found


def is_in_range(x):
    return abs(x.numerator) <= LIMIT and x.denominator <= LIMIT


def told(x):
    return ("number", (x.numerator, x.denominator)) if is_in_range(x) else fault("range")


def cells_in(block):
    top, left, bottom, right = block
    return [(row, column) for row in range(top, bottom + 1) for column in range(left, right + 1)]


def names_of(some_grid):
    return {word: some_grid.areas(word) for word in some_grid.words()}


def met(areas, known, names):
    """What a call meets, in order."""
    for area in areas:
        if area == GONE:
            yield fault("gone")
        elif area[0] == "block":
            for cell in cells_in(area[1:]):
                yield known.get(cell, BLANK)
        elif area[1] not in names:
            yield fault("unknown")
        elif names[area[1]] is None:
            yield fault("clash")
        else:
            yield from met(names[area[1]], known, names)


def call_value(name, areas, known, names):
    values = list(met(areas, known, names))
    for value in values:
        if value[0] == "fault":
            return value
    numbers = [Fraction(*value[1]) for value in values if value[0] == "number"]
    if name == "count":
        return number(len(numbers))
    if name == "sum":
        total = Fraction(0)
        for x in numbers:
            total += x
            if not is_in_range(total):
                return fault("range")
        return told(total)
    if not numbers:
        return fault("none")
    return told(min(numbers) if name == "min" else max(numbers))


def operator_value(sign, left, right):
    for value in (left, right):
        if value[0] == "fault":
            return value
    x, y = Fraction(*left[1]), Fraction(*right[1])
    if sign == "/" and y == 0:
        return fault("zero")
    return told({"+": x + y, "-": x - y, "*": x * y}[sign] if sign != "/" else x / y)


def tree_value(tree, known, names, top=True):
    """The words of v4."""
    kind = tree[0]
    if kind == "num":
        return ("number", tree[1])
    if kind == "gone":
        return fault("gone")
    if kind == "cell":
        value = known.get(tree[1:], BLANK)
        if value == BLANK:
            return number(0)
        return fault("kind") if value[0] == "text" and not top else value
    if kind == "neg":
        return operator_value("-", number(0), tree_value(tree[1], known, names, False))
    if kind == "op":
        left = tree_value(tree[2], known, names, False)
        return operator_value(tree[1], left, tree_value(tree[3], known, names, False))
    return call_value(tree[1], tree[2], known, names)


def parts_of(tree):
    """All trees and areas of a tree."""
    found = [tree]
    if tree[0] == "neg":
        found += parts_of(tree[1])
    if tree[0] == "op":
        found += parts_of(tree[2]) + parts_of(tree[3])
    if tree[0] == "call":
        found += list(tree[2])
    return found


def reads(some_grid, cell):
    """The words of v3."""
    shown = some_grid.shown(cell)
    if len(shown) != 1 or shown[0][0] != "formula":
        return []
    names = names_of(some_grid)
    found = set()
    for part in parts_of(shown[0][1]):
        if part[0] == "cell":
            found.add(part[1:])
        blocks = (names.get(part[1]) or []) if part[0] == "name" else [part]
        for block in blocks:
            if block[0] == "block":
                found.update(cells_in(block[1:]))
    return sorted(found)


def ring(some_grid, cell):
    """The words of v6: all rows of one length in the order of lists, then those that are one longer."""
    step = {one: reads(some_grid, one) for one in some_grid.cells()}
    rows = [[cell]]
    for _ in range(some_grid.rows * some_grid.columns):
        for row in rows:
            if cell in step.get(row[-1], []):
                return row
        rows = [row + [other] for row in rows for other in step.get(row[-1], []) if other not in row]
    return None


def values(some_grid):
    """The words of v7: each value by those of the cells that it reads."""
    names = names_of(some_grid)
    found = {}

    def leads_to(start):
        reached = set()
        waiting = [start]
        while waiting:
            for other in reads(some_grid, waiting.pop()):
                if other not in reached:
                    reached.add(other)
                    waiting.append(other)
        return reached

    def value(cell):
        shown = some_grid.shown(cell)
        if cell in found or not shown:
            return found.get(cell, BLANK)
        if len(shown) > 1:
            found[cell] = fault("clash")
        elif shown[0][0] != "formula":
            found[cell] = shown[0]
        elif cell in leads_to(cell):
            found[cell] = fault("ring")
        else:
            known = {other: value(other) for other in reads(some_grid, cell)}
            found[cell] = tree_value(shown[0][1], known, names)
        return found[cell]

    for cell in some_grid.cells():
        value(cell)
    return found


def random_shown(chance, rows, columns, deep=2):
    """A random list of contents for a cell."""
    kind = chance.randrange(12)
    if kind == 0:
        return []
    if kind == 1:
        return [tables.random_content(chance, rows, columns) for _ in range(2)]
    if kind < 6:
        return [tables.random_content(chance, rows, columns, deep)]
    return [("formula", tables.random_tree(chance, rows, columns, deep))]


def random_areas(chance, rows, columns):
    """Random areas for a name, or None."""
    if chance.randrange(5) == 0:
        return None
    areas = [("block",) + tables.random_block(chance, rows, columns) for _ in range(chance.randint(1, 2))]
    return areas if chance.randrange(4) > 0 else areas[:1] + [GONE]


def random_grid(chance, rows, columns, many):
    found = Grid(rows, columns)
    for _ in range(many):
        found.put((chance.randrange(rows), chance.randrange(columns)), random_shown(chance, rows, columns))
    for word in tables.WORDS:
        if chance.randrange(2) == 0:
            found.name(word, random_areas(chance, rows, columns))
    return found
