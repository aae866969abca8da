"""How updates are written as bytes, and read."""

from tablemates.edit import ordered, place
from tablemates.errors import InvalidBytes
from tablemates.tokens import LONGEST_WORD, SMALL
from tablemates.trees import CALLS, OPERATORS, SHORTEST_NAME

AXES = ("row", "column")
# All characters of a text: the percent sign is none of them.
CHARACTERS = " !\"#$&'()*+,-./0123456789:;<=>?@ABCDEFGHIJKLMNOPQRSTUVWXYZ[\\]^_`abcdefghijklmnopqrstuvwxyz{|}~"

MOST_ROWS = 8
MOST_COLUMNS = 6
LONGEST_TEXT = 60
MOST_BLOCKS = 4
LARGEST_TREE = 60
MOST = 100000
MOST_OF_FRACTION = 10 ** 20


def number_bytes(n):
    """The bytes of an integer from 0 on, the lowest digits first."""
    found = []
    while n >= 128:
        found.append(128 + n % 128)
        n = n // 128
    found.append(n)
    return found


# An update is first turned into the list of its integers, then these into bytes.

def _string_numbers(text):
    return [len(text)] + [ord(character) for character in text]


def _fraction_numbers(x):
    n, d = x
    return [2 * n if n >= 0 else -2 * n - 1, d]


def _lines_numbers(lines):
    """The integers of several line ids, one behind the other."""
    found = []
    for line in lines:
        found.extend(line)
    return found


def _neighbour_numbers(line):
    return [0] if line is None else [1, line[0], line[1]]


def _area_numbers(area):
    if area[0] == "block":
        return [1] + _lines_numbers(area[1:])
    if area[0] == "name":
        return [2] + _string_numbers(area[1])
    return [0]


def _call_numbers(name, areas):
    found = [3, CALLS.index(name), len(areas)]
    for area in areas:
        found.extend(_area_numbers(area))
    return found


def _tree_numbers(tree):
    kind = tree[0]
    if kind == "num":
        return [0] + _fraction_numbers(tree[1])
    if kind == "cell":
        return [1] + _lines_numbers(tree[1:])
    if kind == "call":
        return _call_numbers(tree[1], tree[2])
    if kind == "neg":
        return [4] + _tree_numbers(tree[1])
    if kind == "op":
        return [5, OPERATORS.index(tree[1])] + _tree_numbers(tree[2]) + _tree_numbers(tree[3])
    return [2]


def _content_numbers(content):
    if content[0] == "text":
        return [1] + _string_numbers(content[1])
    if content[0] == "number":
        return [2] + _fraction_numbers(content[1])
    if content[0] == "formula":
        return [3] + _tree_numbers(content[1])
    return [0]


def _write_numbers(cells):
    found = [2, len(cells)]
    for row, column, content in cells:
        found.extend(_lines_numbers((row, column)))
        found.extend(_content_numbers(content))
    return found


def _name_numbers(word, blocks):
    found = [3] + _string_numbers(word) + [len(blocks)]
    for block in blocks:
        found.extend(_lines_numbers(block))
    return found


def _action_numbers(action):
    kind = action[0]
    if kind == "insert":
        axis = AXES.index(action[1])
        return [0, axis] + _neighbour_numbers(action[2]) + _neighbour_numbers(action[3])
    if kind == "delete":
        return [1, AXES.index(action[1])] + _lines_numbers((action[2],))
    if kind == "write":
        return _write_numbers(action[1])
    if kind == "name":
        return _name_numbers(action[1], action[2])
    return [4, action[1]]


def write_update(begin, edits):
    """The bytes of an update with this beginning (rows, columns) and these edits."""
    numbers = [begin[0], begin[1], len(edits)]
    for edit_id, seen, action in ordered(edits):
        numbers.extend(edit_id)
        numbers.extend(seen)
        numbers.extend(_action_numbers(action))
    data = []
    for number in numbers:
        data.extend(number_bytes(number))
    return data


class Reader:
    """Reads the integers of bytes, one after the other."""

    def __init__(self, data):
        self.source = data
        self.at = 0
        # How many trees and areas the present tree may still have.
        self.room = 0

    def integer(self):
        """The next integer; raises InvalidBytes if there is none."""
        end = self.at
        while end < len(self.source) and self.source[end] >= 128:
            end = end + 1
        if end >= len(self.source) or (end > self.at and self.source[end] == 0):
            raise InvalidBytes(self.at)
        n = 0
        for byte in reversed(self.source[self.at:end + 1]):
            n = n * 128 + byte % 128
        self.at = end + 1
        return n

    def number(self, least, most):
        """The next integer; raises InvalidBytes if there is none, or not one from least to most."""
        start = self.at
        n = self.integer()
        if not least <= n <= most:
            raise InvalidBytes(start)
        return n

    def choice(self, words):
        """That one of the words for which the next integer stands."""
        return words[self.number(0, len(words) - 1)]

    def part(self, most):
        """The first integer of a tree or an area, which takes room in the present tree."""
        if self.room == 0:
            raise InvalidBytes(self.at)
        self.room = self.room - 1
        return self.number(0, most)


def _read_string(reader, least, most, characters):
    many = reader.number(least, most)
    return "".join([_read_character(reader, characters) for _ in range(many)])


def _read_character(reader, characters):
    start = reader.at
    code = reader.number(0, MOST)
    for character in characters:
        if ord(character) == code:
            return character
    raise InvalidBytes(start)


def _read_word(reader):
    return _read_string(reader, SHORTEST_NAME, LONGEST_WORD, SMALL)


def _read_fraction(reader):
    sign_and_size = reader.number(0, MOST_OF_FRACTION)
    d = reader.number(1, MOST_OF_FRACTION)
    half = sign_and_size // 2
    return (half if sign_and_size % 2 == 0 else -half - 1, d)


def _read_line(reader):
    person = reader.number(0, 4)
    return (person, reader.number(0, MOST))


def _read_lines(reader, many):
    return tuple([_read_line(reader) for _ in range(many)])


def _read_neighbour(reader):
    return None if reader.number(0, 1) == 0 else _read_line(reader)


def _read_area(reader):
    kind = reader.part(2)
    if kind == 0:
        return ("gone",)
    if kind == 1:
        return ("block",) + _read_lines(reader, 4)
    return ("name", _read_word(reader))


def _read_call(reader):
    name = reader.choice(CALLS)
    many = reader.number(0, MOST)
    return ("call", name, tuple([_read_area(reader) for _ in range(many)]))


def _read_op(reader):
    sign = reader.choice(OPERATORS)
    left = _read_tree(reader)
    return ("op", sign, left, _read_tree(reader))


def _read_tree(reader):
    kind = reader.part(5)
    if kind == 0:
        return ("num", _read_fraction(reader))
    if kind == 1:
        return ("cell",) + _read_lines(reader, 2)
    if kind == 2:
        return ("gone",)
    if kind == 3:
        return _read_call(reader)
    if kind == 4:
        return ("neg", _read_tree(reader))
    return _read_op(reader)


def _read_content(reader):
    kind = reader.number(0, 3)
    if kind == 0:
        return ("blank",)
    if kind == 1:
        return ("text", _read_string(reader, 1, LONGEST_TEXT, CHARACTERS))
    if kind == 2:
        return ("number", _read_fraction(reader))
    reader.room = LARGEST_TREE
    return ("formula", _read_tree(reader))


def _read_cell(reader):
    row, column = _read_lines(reader, 2)
    return (row, column, _read_content(reader))


def _read_insert(reader):
    axis = reader.choice(AXES)
    left = _read_neighbour(reader)
    return ("insert", axis, left, _read_neighbour(reader))


def _read_delete(reader):
    axis = reader.choice(AXES)
    return ("delete", axis, _read_line(reader))


def _read_write(reader):
    many = reader.number(0, MOST)
    return ("write", tuple([_read_cell(reader) for _ in range(many)]))


def _read_name(reader):
    word = _read_word(reader)
    many = reader.number(0, MOST_BLOCKS)
    return ("name", word, tuple([_read_lines(reader, 4) for _ in range(many)]))


def _read_undo(reader):
    return ("undo", reader.number(1, MOST))


READERS = (_read_insert, _read_delete, _read_write, _read_name, _read_undo)


def _read_head(reader):
    """The id and the version of the next edit."""
    person = reader.number(1, 4)
    number = reader.number(1, MOST)
    return ((person, number), tuple([reader.number(0, MOST) for _ in range(4)]))


def _read_edits(reader, many):
    edits = []
    told = {}
    for _ in range(many):
        start = reader.at
        head = _read_head(reader)
        edit_id, seen = head
        if edit_id in told or (edits != [] and place(head) < place(edits[-1])):
            raise InvalidBytes(start)
        told[edit_id] = True
        read_action = READERS[reader.number(0, len(READERS) - 1)]
        edits.append((edit_id, seen, read_action(reader)))
    return edits


def read_update(data):
    """The tuple (begin, edits) of an update; raises InvalidBytes with the place of the fault."""
    reader = Reader(data)
    rows = reader.number(0, MOST_ROWS)
    columns = reader.number(0, MOST_COLUMNS)
    edits = _read_edits(reader, reader.number(0, MOST))
    if reader.at < len(data):
        raise InvalidBytes(reader.at)
    return ((rows, columns), edits)
