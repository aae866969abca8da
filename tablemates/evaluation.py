"""The values of trees and cells, by known values of cells."""

from tablemates.fractions import add, divide, less, multiply, subtract
from tablemates.reading import NO_NAME, cells_of, formula_of, told_of

BLANK = ("blank",)
ZERO = (0, 1)
CLASH = ("fault", "clash")
GONE_FAULT = ("fault", "gone")
UNKNOWN = ("fault", "unknown")
NO_NUMBER = ("fault", "kind")
BY_ZERO = ("fault", "zero")
NOT_IN_RANGE = ("fault", "range")
OF_NONE = ("fault", "none")


def _is_fault(value):
    return value[0] == "fault"


def _number_value(x):
    """The value of a result, which is None if it is not in range."""
    return NOT_IN_RANGE if x is None else ("number", x)


def _cell_number(value):
    """What a cell with this value is where a number is needed."""
    if value == BLANK:
        return ("number", ZERO)
    return NO_NUMBER if value[0] == "text" else value


def _negated(value):
    return value if _is_fault(value) else ("number", (-value[1][0], value[1][1]))


def _calculated(sign, left, right):
    """The value of an operator between two values, none of which is a text or blank."""
    if _is_fault(left):
        return left
    if _is_fault(right):
        return right
    x = left[1]
    y = right[1]
    if sign == "+":
        return _number_value(add(x, y))
    if sign == "-":
        return _number_value(subtract(x, y))
    if sign == "*":
        return _number_value(multiply(x, y))
    return BY_ZERO if y == ZERO else _number_value(divide(x, y))


def _named_areas(grid, word):
    """What stands for a name: its areas, or a fault."""
    told = told_of(grid, word)
    if told == NO_NAME:
        return [UNKNOWN]
    return [CLASH] if told is None else told


def _visited(grid, areas, known):
    """The list of the values that a call meets: those of cells, and faults in the place of areas."""
    parts = []
    for area in areas:
        parts.extend(_named_areas(grid, area[1]) if area[0] == "name" else [area])
    values = []
    for part in parts:
        if part[0] == "block":
            values.extend([known.get(cell, BLANK) for cell in cells_of(part[1:])])
        else:
            values.append(part if _is_fault(part) else GONE_FAULT)
    return values


def _total(numbers):
    """The sum of numbers; None as soon as one on the way is not in range."""
    total = ZERO
    for x in numbers:
        total = add(total, x)
        if total is None:
            return None
    return total


def _outermost(name, numbers):
    """The least or the greatest of one or more numbers."""
    best = numbers[0]
    for x in numbers:
        if (name == "min" and less(x, best)) or (name == "max" and less(best, x)):
            best = x
    return best


def _called(name, values):
    """The value of a call that meets these values."""
    for value in values:
        if _is_fault(value):
            return value
    numbers = [value[1] for value in values if value[0] == "number"]
    if name == "sum":
        return _number_value(_total(numbers))
    if name == "count":
        return ("number", (len(numbers), 1))
    return OF_NONE if numbers == [] else ("number", _outermost(name, numbers))


def _operand(grid, tree, known):
    """The value of a tree where a number is needed: a number or a fault."""
    kind = tree[0]
    if kind == "num":
        return ("number", tree[1])
    if kind == "cell":
        return _cell_number(known.get((tree[1], tree[2]), BLANK))
    if kind == "neg":
        return _negated(_operand(grid, tree[1], known))
    if kind == "op":
        return _calculated(tree[1], _operand(grid, tree[2], known), _operand(grid, tree[3], known))
    if kind == "call":
        return _called(tree[1], _visited(grid, tree[2], known))
    return GONE_FAULT


def evaluate(grid, tree, known):
    """The value of a placed tree; `known` is a dict from cells to values."""
    if tree[0] == "cell":
        value = known.get((tree[1], tree[2]), BLANK)
        # Only a tree that is one cell has the value of a text.
        if value[0] == "text":
            return value
    return _operand(grid, tree, known)


def value_from(grid, cell, known):
    """The value of a cell by known values of others."""
    shown = grid.shown(cell)
    if shown == []:
        return BLANK
    if len(shown) > 1:
        return CLASH
    tree = formula_of(grid, cell)
    return shown[0] if tree is None else evaluate(grid, tree, known)
