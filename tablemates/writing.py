"""How placed trees are written as formulas."""

from tablemates.decimals import write_number
from tablemates.tokens import write_address
from tablemates.trees import GONE, SUMS


def _is_op(tree):
    return tree[0] == "op"


def _is_sum(tree):
    return tree[0] == "op" and tree[1] in SUMS


def _bracketed(text, needed):
    return "(" + text + ")" if needed else text


def _write_area(area):
    if area[0] == "name":
        return area[1]
    if area == (GONE,):
        return GONE
    first = write_address(area[1], area[2])
    last = write_address(area[3], area[4])
    return first if first == last else first + ":" + last


def write_formula(tree):
    """The string of a placed tree, with brackets only where they are needed."""
    kind = tree[0]
    if kind == "num":
        return write_number(tree[1])
    if kind == "cell":
        return write_address(tree[1], tree[2])
    if kind == "call":
        return tree[1] + "(" + ", ".join([_write_area(area) for area in tree[2]]) + ")"
    if kind == "neg":
        within = tree[1]
        return "-" + _bracketed(write_formula(within), _is_op(within) or within[0] == "neg")
    if kind == "op":
        sign, left, right = tree[1:]
        first = _bracketed(write_formula(left), sign not in SUMS and _is_sum(left))
        last = _bracketed(write_formula(right), _is_sum(right) or (sign not in SUMS and _is_op(right)))
        return first + " " + sign + " " + last
    return GONE
