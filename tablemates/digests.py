"""Digests: a few bytes that tell how far two copies are apart."""

from tablemates.errors import ClashingEdits, InvalidBytes, OtherTable
from tablemates.records import sum_of
from tablemates.versions import nothing
from tablemates.wire import Reader, number_bytes

# The rows, the columns, the four entries of the version, the sum.
PARTS = 7


def _numbers_of(sheet):
    begin = sheet.begin()
    return [begin[0], begin[1]] + list(sheet.version()) + [sum_of(sheet.update(nothing()))]


def digest(sheet):
    """The bytes of the digest of a copy."""
    found = []
    for number in _numbers_of(sheet):
        found.extend(number_bytes(number))
    return found


def _read_numbers(data):
    """The integers of a digest; raises InvalidBytes(0) if the bytes are none."""
    reader = Reader(data)
    try:
        numbers = [reader.integer() for _ in range(PARTS)]
    except InvalidBytes:
        raise InvalidBytes(0) from None
    if reader.at < len(data):
        raise InvalidBytes(0)
    return numbers


def _more(version, other):
    """How many edits the one version counts that the other does not."""
    return sum([max(0, mine - theirs) for mine, theirs in zip(version, other)])


def compare(sheet, data):
    """The tuple of how many edits this copy has that the copy of a digest lacks, and the other way round."""
    mine = _numbers_of(sheet)
    theirs = _read_numbers(data)
    if theirs[:2] != mine[:2]:
        raise OtherTable()
    if theirs[2:6] == mine[2:6] and theirs[6] != mine[6]:
        raise ClashingEdits((0, 0))
    return (_more(mine[2:6], theirs[2:6]), _more(theirs[2:6], mine[2:6]))
