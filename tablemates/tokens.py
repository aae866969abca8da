"""The tokens of formulas, and addresses of cells."""

from tablemates.decimals import DIGITS, read_decimal

CAPITALS = "ABCDEFGHIJKLMNOPQRSTUVWXYZ"
SMALL = "abcdefghijklmnopqrstuvwxyz"
SIGNS = "+-*/(),:"
LONGEST_WORD = 8


def _run_end(text, at, characters):
    """The index behind the longest run of these characters that begins at this index."""
    while at < len(text) and text[at] in characters:
        at = at + 1
    return at


def read_address(text):
    """The cell of an address as a tuple (row, column), None if the string is no address."""
    middle = _run_end(text, 0, CAPITALS)
    letters = text[:middle]
    digits = text[middle:]
    if len(letters) not in (1, 2) or len(digits) not in (1, 2):
        return None
    if digits[0] == "0" or _run_end(digits, 0, DIGITS) < len(digits):
        return None
    column = 0
    for letter in letters:
        column = column * len(CAPITALS) + CAPITALS.index(letter) + 1
    return (int(digits) - 1, column - 1)


def write_address(row, column):
    """The address of a cell."""
    letters = ""
    rest = column + 1
    while rest > 0:
        # The letters count from 1: there is none for 0, Z is followed by AA.
        letters = CAPITALS[(rest - 1) % len(CAPITALS)] + letters
        rest = (rest - 1) // len(CAPITALS)
    return letters + str(row + 1)


def _token_end(text, at):
    """The index behind the token that begins at this index."""
    if text[at] in DIGITS:
        end = _run_end(text, at, DIGITS)
        behind = _run_end(text, end + 1, DIGITS)
        if text[end:end + 1] == "." and behind > end + 1:
            return behind
        return end
    if text[at] in CAPITALS:
        return _run_end(text, _run_end(text, at, CAPITALS), DIGITS)
    if text[at] in SMALL:
        return _run_end(text, at, SMALL)
    return at + 1


def _kind(token):
    """The kind of a token; a run that is not what it must be is bad as a whole."""
    first = token[0]
    if first in DIGITS and read_decimal(token) is not None:
        return "decimal"
    if first in CAPITALS and read_address(token) is not None:
        return "address"
    if first in SMALL and len(token) <= LONGEST_WORD:
        return "word"
    if first in SIGNS:
        return "sign"
    return "bad"


def token_list(text):
    """The list of the tokens of a string as tuples (kind, string)."""
    found = []
    at = 0
    while at < len(text):
        end = _token_end(text, at)
        if text[at] != " ":
            found.append((_kind(text[at:end]), text[at:end]))
        at = end
    return found


def tokens(text):
    """The list of the tokens of a string as tuples (kind, string)."""
    # The grammar has a parameter of this function's name, so it imports the other one.
    return token_list(text)
