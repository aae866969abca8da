"""The grammar of formulas: which tokens begin one, and the tree of one."""

from tablemates.decimals import read_decimal
from tablemates.errors import FormulaFault
from tablemates.tokens import read_address, token_list
from tablemates.trees import CALLS, GONE, PRODUCTS, SUMS, is_name_word

MOST_TOKENS = 30
MOST_BRACKETS = 6

# What may stand next, and what may stand behind it. Each of these states leads to the end of some
# formula, so tokens begin a formula exactly if they can be gone through here.
STEPS = {
    ("factor", "-"): "primary",
    ("factor", "decimal"): "behind",
    ("factor", "address"): "behind",
    ("factor", "gone"): "behind",
    ("factor", "call"): "call",
    ("factor", "("): "factor",
    ("primary", "decimal"): "behind",
    ("primary", "address"): "behind",
    ("primary", "gone"): "behind",
    ("primary", "call"): "call",
    ("primary", "("): "factor",
    ("behind", "+"): "factor",
    ("behind", "-"): "factor",
    ("behind", "*"): "factor",
    ("behind", "/"): "factor",
    ("behind", ")"): "behind",
    ("call", "("): "area",
    ("area", "address"): "corner",
    ("area", "gone"): "last",
    ("area", "name"): "last",
    ("corner", ":"): "other",
    ("corner", ","): "area",
    ("corner", ")"): "behind",
    ("other", "address"): "last",
    ("last", ","): "area",
    ("last", ")"): "behind",
}


def _symbol(token):
    """What the token is for the grammar; None if it can stand nowhere."""
    kind, string = token
    if kind == "sign":
        return string
    if kind != "word":
        return kind
    if string == GONE:
        return "gone"
    if string in CALLS:
        return "call"
    return "name" if is_name_word(string) else None


def _depth_behind(state, symbol, depth):
    """The number of open brackets behind a symbol; those of a call do not count."""
    if symbol == "(" and state != "call":
        return depth + 1
    if symbol == ")" and state == "behind":
        return depth - 1
    return depth


def _walk(tokens):
    """How many of the tokens, from the first one on, begin a formula, and whether these are one."""
    state = "factor"
    depth = 0
    for at, token in enumerate(tokens):
        symbol = _symbol(token)
        depth = _depth_behind(state, symbol, depth)
        state = STEPS.get((state, symbol))
        if state is None or not 0 <= depth <= MOST_BRACKETS:
            return (at, False)
    return (len(tokens), state == "behind" and depth == 0)


def begins(tokens):
    """Whether the tokens begin a formula of any length."""
    return _walk(tokens)[0] == len(tokens)


def _chain(tokens, at, signs, part):
    """The tree of parts with these signs between them, and the index behind it."""
    left, at = part(tokens, at)
    while at < len(tokens) and tokens[at][1] in signs:
        sign = tokens[at][1]
        right, at = part(tokens, at + 1)
        left = ("op", sign, left, right)
    return (left, at)


def _formula(tokens, at):
    return _chain(tokens, at, SUMS, _term)


def _term(tokens, at):
    return _chain(tokens, at, PRODUCTS, _factor)


def _factor(tokens, at):
    if tokens[at][1] != "-":
        return _primary(tokens, at)
    tree, end = _primary(tokens, at + 1)
    return (("neg", tree), end)


def _primary(tokens, at):
    kind, string = tokens[at]
    if kind == "decimal":
        return (("num", read_decimal(string)), at + 1)
    if kind == "address":
        row, column = read_address(string)
        return (("cell", row, column), at + 1)
    if string == GONE:
        return ((GONE,), at + 1)
    if string == "(":
        tree, end = _formula(tokens, at + 1)
        return (tree, end + 1)
    return _call(tokens, at)


def _call(tokens, at):
    areas = []
    # Before each area stands one token: the bracket, then a comma.
    end = at + 1
    while tokens[end][1] != ")":
        area, end = _area(tokens, end + 1)
        areas.append(area)
    return (("call", tokens[at][1], tuple(areas)), end + 1)


def _area(tokens, at):
    kind, string = tokens[at]
    if string == GONE:
        return ((GONE,), at + 1)
    if kind == "word":
        return (("name", string), at + 1)
    if tokens[at + 1][1] == ":":
        return (_block(read_address(string), read_address(tokens[at + 2][1])), at + 3)
    return (_block(read_address(string), read_address(string)), at + 1)


def _block(corner, other):
    """The block of two opposite corners, in whichever order."""
    top = min(corner[0], other[0])
    left = min(corner[1], other[1])
    bottom = max(corner[0], other[0])
    right = max(corner[1], other[1])
    return ("block", top, left, bottom, right)


def _off_grid(token, rows, columns):
    """Whether the token is the address of a cell that the grid does not have."""
    if token[0] != "address":
        return False
    row, column = read_address(token[1])
    return row >= rows or column >= columns


def read_formula(text, rows, columns):
    """The placed tree of a string for a grid of this size; raises FormulaFault."""
    found = token_list(text)
    if len(found) > MOST_TOKENS:
        raise FormulaFault(MOST_TOKENS, "long")
    many, whole = _walk(found)
    if many < len(found):
        raise FormulaFault(many, "unexpected")
    if not whole:
        raise FormulaFault(many, "end")
    for at, token in enumerate(found):
        if _off_grid(token, rows, columns):
            raise FormulaFault(at, "range")
    return _formula(found, 0)[0]
