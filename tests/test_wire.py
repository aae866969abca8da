"""Updates as bytes: e5, e6 and e7."""

import copy
import itertools
import random
import unittest

import samples
from tablemates.edit import ordered
from tablemates.errors import InvalidBytes
from tablemates.wire import number_bytes, read_update, write_update

TEXT_CODES = [code for code in range(32, 127) if code != 37]
ANY = range(0, 100001)
FROM_ONE = range(1, 100001)
PART = range(0, 10 ** 20 + 1)
BEGIN = (3, 2)
HEAD = [3, 2, 1]
ROW = (0, 3)
COLUMN = (2, 150)


def joined_bytes(numbers):
    return list(itertools.chain.from_iterable(number_bytes(n) for n in numbers))


def start_of(numbers, at):
    """The place of the integer with this index among the bytes."""
    return len(joined_bytes(numbers[:at]))


def fault_of(data):
    """The place of the fault; None if there is none."""
    try:
        read_update(data)
    except InvalidBytes as error:
        return error.at
    return None


def one_edit(action):
    return [((1, 2), (1, 0, 0, 5), action)]


def one_tree(tree):
    return one_edit(("write", ((ROW, COLUMN, ("formula", tree)),)))


# The integers ahead of an action, and ahead of a content or a tree in the only cell of a write.
BEFORE_ACTION = HEAD + [1, 2, 1, 0, 0, 5]
BEFORE_CONTENT = BEFORE_ACTION + [2, 1, 0, 3, 2, 150]
BEFORE_TREE = BEFORE_CONTENT + [3]


class Expected:
    """Reads updates by asking for one integer after the other, told by the set of those that may stand there.

    This is e6 and e7 once more, in another way than in the program: each method is a generator of
    requests, and gets the integers as answers.
    """

    def __init__(self, data):
        self.data = data
        self.starts = [at for at in range(len(data)) if at == 0 or data[at - 1] < 128]

    def fault(self):
        """The place of the fault, or None; the update is then in `self.found`."""
        steps = self.update()
        wanted = next(steps)
        for at in self.starts:
            if isinstance(wanted, bool):
                return at
            end = at
            while end < len(self.data) and self.data[end] >= 128:
                end += 1
            value = sum((byte % 128) << (7 * k) for k, byte in enumerate(self.data[at:end + 1]))
            if self.data[at:end + 1] != number_bytes(value) or value not in wanted:
                return at
            self.place = at
            wanted = steps.send(value)
            while wanted is False:
                if self.wrong:
                    return self.edit_place
                wanted = steps.send(None)
        return None if wanted is True else len(self.data)

    def update(self):
        rows = yield range(0, 9)
        columns = yield range(0, 7)
        many = yield ANY
        edits = []
        for _ in range(many):
            person = yield range(1, 5)
            self.edit_place = self.place
            number = yield FROM_ONE
            seen = []
            for _ in range(4):
                seen.append((yield ANY))
            key = (sum(seen), person, number)
            self.wrong = any((person, number) == one[0] for one in edits)
            if edits:
                last = edits[-1]
                self.wrong = self.wrong or key <= (sum(last[1]),) + last[0]
            yield False
            action = yield from self.action()
            edits.append(((person, number), tuple(seen), action))
        self.found = ((rows, columns), edits)
        yield True

    def action(self):
        kind = yield range(0, 5)
        if kind == 0:
            axis = yield range(0, 2)
            sides = []
            for _ in range(2):
                told = yield range(0, 2)
                sides.append((yield from self.lines(1))[0] if told else None)
            return ("insert", ("row", "column")[axis], sides[0], sides[1])
        if kind == 1:
            axis = yield range(0, 2)
            return ("delete", ("row", "column")[axis], (yield from self.lines(1))[0])
        if kind == 2:
            many = yield ANY
            cells = []
            for _ in range(many):
                lines = yield from self.lines(2)
                cells.append(lines + ((yield from self.content()),))
            return ("write", tuple(cells))
        if kind == 3:
            word = yield from self.string(range(2, 9), range(97, 123))
            many = yield range(0, 5)
            blocks = []
            for _ in range(many):
                blocks.append((yield from self.lines(4)))
            return ("name", word, tuple(blocks))
        return ("undo", (yield FROM_ONE))

    def lines(self, many):
        found = []
        for _ in range(many):
            person = yield range(0, 5)
            number = yield ANY
            found.append((person, number))
        return tuple(found)

    def string(self, lengths, codes):
        many = yield lengths
        text = ""
        for _ in range(many):
            text += chr((yield codes))
        return text

    def fraction(self):
        n = yield PART
        d = yield range(1, 10 ** 20 + 1)
        return ((n if n % 2 == 0 else -n - 1) // 2, d)

    def content(self):
        kind = yield range(0, 4)
        if kind == 0:
            return ("blank",)
        if kind == 1:
            return ("text", (yield from self.string(range(1, 61), TEXT_CODES)))
        if kind == 2:
            return ("number", (yield from self.fraction()))
        self.parts = 0
        return ("formula", (yield from self.tree()))

    def kind_of_part(self, kinds):
        self.parts += 1
        return (yield kinds if self.parts <= 60 else ())

    def tree(self):
        kind = yield from self.kind_of_part(range(0, 6))
        if kind == 0:
            return ("num", (yield from self.fraction()))
        if kind == 1:
            return ("cell",) + (yield from self.lines(2))
        if kind == 2:
            return ("gone",)
        if kind == 3:
            name = yield range(0, 4)
            many = yield ANY
            areas = []
            for _ in range(many):
                areas.append((yield from self.area()))
            return ("call", ("sum", "count", "min", "max")[name], tuple(areas))
        if kind == 4:
            return ("neg", (yield from self.tree()))
        sign = yield range(0, 4)
        left = yield from self.tree()
        right = yield from self.tree()
        return ("op", "+-*/"[sign], left, right)

    def area(self):
        kind = yield from self.kind_of_part(range(0, 3))
        if kind == 0:
            return ("gone",)
        if kind == 1:
            return ("block",) + (yield from self.lines(4))
        return ("name", (yield from self.string(range(2, 9), range(97, 123))))


class Numbers(unittest.TestCase):
    def test_e5_about_powers_of_128(self):
        for n, want in ((0, [0]), (1, [1]), (127, [127]), (128, [128, 1]), (129, [129, 1]), (255, [255, 1]),
                        (256, [128, 2]), (16383, [255, 127]), (16384, [128, 128, 1]), (16385, [129, 128, 1]),
                        (2097151, [255, 255, 127]), (2097152, [128, 128, 128, 1])):
            self.assertEqual(number_bytes(n), want)

    def test_e5_lowest_digit_first(self):
        for n in list(range(2000)) + [128 ** k + more for k in range(1, 10) for more in (-1, 0, 1, 77)]:
            data = number_bytes(n)
            self.assertEqual(sum((byte % 128) * 128 ** k for k, byte in enumerate(data)), n)
            self.assertTrue(all(byte >= 128 for byte in data[:-1]))
            self.assertTrue(data[-1] < 128 and (data[-1] > 0 or data == [0]))


class Written(unittest.TestCase):
    """Each kind of action, content, tree and area, byte by byte, and read back."""

    def check(self, edits, numbers):
        data = write_update(BEGIN, edits)
        self.assertEqual(data, joined_bytes(numbers))
        self.assertEqual(read_update(data), (BEGIN, edits))

    def action(self, action, *numbers):
        self.check(one_edit(action), BEFORE_ACTION + list(numbers))

    def content(self, content, *numbers):
        self.check(one_edit(("write", ((ROW, COLUMN, content),))), BEFORE_CONTENT + list(numbers))

    def tree(self, tree, *numbers):
        self.check(one_tree(tree), BEFORE_TREE + list(numbers))

    def test_e5_no_edits(self):
        self.assertEqual(write_update((8, 6), []), [8, 6, 0])
        self.assertEqual(write_update((0, 0), []), [0, 0, 0])
        self.assertEqual(read_update([8, 6, 0]), ((8, 6), []))

    def test_e5_example(self):
        edits = [((1, 1), (0, 0, 0, 0), ("write", (((0, 1), (0, 2), ("number", (-3, 2))),)))]
        data = [2, 2, 1, 1, 1, 0, 0, 0, 0, 2, 1, 0, 1, 0, 2, 2, 5, 2]
        self.assertEqual(write_update((2, 2), edits), data)
        self.assertEqual(read_update(data), ((2, 2), edits))

    def test_e5_edit(self):
        self.check([((4, 300), (1, 200, 3, 299), ("undo", 5))],
                   HEAD + [4, 300, 1, 200, 3, 299, 4, 5])

    def test_e5_insert(self):
        self.action(("insert", "row", None, None), 0, 0, 0, 0)
        self.action(("insert", "column", (0, 1), None), 0, 1, 1, 0, 1, 0)
        self.action(("insert", "row", None, (3, 200)), 0, 0, 0, 1, 3, 200)
        self.action(("insert", "column", (1, 2), (3, 4)), 0, 1, 1, 1, 2, 1, 3, 4)

    def test_e5_delete(self):
        self.action(("delete", "row", (0, 7)), 1, 0, 0, 7)
        self.action(("delete", "column", (4, 200)), 1, 1, 4, 200)

    def test_e5_write(self):
        self.action(("write", ()), 2, 0)
        self.action(("write", (((0, 1), (0, 2), ("blank",)), ((0, 1), (1, 3), ("text", "a")))),
                    2, 2, 0, 1, 0, 2, 0, 0, 1, 1, 3, 1, 1, 97)

    def test_e5_name(self):
        self.action(("name", "ab", ()), 3, 2, 97, 98, 0)
        self.action(("name", "abcdefgh", (((0, 1), (0, 2), (0, 3), (0, 4)), ((1, 5), (2, 6), (3, 7), (4, 8)))),
                    3, 8, 97, 98, 99, 100, 101, 102, 103, 104, 2, 0, 1, 0, 2, 0, 3, 0, 4, 1, 5, 2, 6, 3, 7, 4, 8)

    def test_e5_undo(self):
        self.action(("undo", 1), 4, 1)
        self.action(("undo", 128), 4, 128)

    def test_e5_contents(self):
        self.content(("blank",), 0)
        self.content(("text", "Hi ~ !"), 1, 6, 72, 105, 32, 126, 32, 33)
        self.content(("number", (0, 1)), 2, 0, 1)
        self.content(("number", (3, 2)), 2, 6, 2)
        self.content(("number", (-1, 1)), 2, 1, 1)
        self.content(("number", (-64, 5)), 2, 127, 5)
        self.content(("formula", ("gone",)), 3, 2)

    def test_e5_all_characters(self):
        for code in TEXT_CODES:
            self.content(("text", chr(code)), 1, 1, code)

    def test_e5_trees(self):
        self.tree(("num", (1, 8)), 0, 2, 8)
        self.tree(("cell", (0, 1), (2, 3)), 1, 0, 1, 2, 3)
        self.tree(("gone",), 2)
        self.tree(("neg", ("neg", ("gone",))), 4, 4, 2)
        for at, sign in enumerate("+-*/"):
            self.tree(("op", sign, ("gone",), ("num", (1, 1))), 5, at, 2, 0, 2, 1)
        self.tree(("op", "-", ("op", "*", ("gone",), ("neg", ("gone",))), ("gone",)), 5, 1, 5, 2, 2, 4, 2, 2)

    def test_e5_areas(self):
        for at, name in enumerate(("sum", "count", "min", "max")):
            self.tree(("call", name, (("gone",),)), 3, at, 1, 0)
        self.tree(("call", "sum", (("block", (0, 1), (0, 2), (1, 3), (4, 200)), ("name", "ab"), ("gone",))),
                  3, 0, 3, 1, 0, 1, 0, 2, 1, 3, 4, 200, 2, 2, 97, 98, 0)

    def test_e5_edits_in_their_order(self):
        for start in range(30):
            edits = samples.edits(random.Random(start), 15)
            data = write_update(BEGIN, edits)
            self.assertEqual(write_update(BEGIN, edits[::-1]), data)
            self.assertEqual(write_update(BEGIN, ordered(edits)), data)
            self.assertEqual(read_update(data), (BEGIN, ordered(edits)))
            self.assertEqual(Expected(data).fault(), None)

    def test_e5_edits_that_are_not_closed(self):
        edits = [((2, 9), (8, 8, 8, 8), ("undo", 3)), ((2, 4), (50, 0, 0, 0), ("undo", 3))]
        self.assertEqual(read_update(write_update(BEGIN, edits)), (BEGIN, edits))

    def test_arguments_stay_as_they_are(self):
        edits = samples.edits(random.Random(3), 20)
        before = copy.deepcopy(edits)
        data = write_update(BEGIN, edits)
        self.assertEqual(edits, before)
        kept = list(data)
        first = read_update(data)
        self.assertEqual(data, kept)
        first[1].clear()
        self.assertEqual(read_update(data), (BEGIN, ordered(edits)))
        data.clear()
        self.assertEqual(write_update(BEGIN, edits), kept)


class Ranges(unittest.TestCase):
    """For each place of e6 the ends of its range, and what lies just outside."""

    def check(self, numbers, at, least, most):
        place = start_of(numbers, at)
        for value in (least, most):
            found = fault_of(joined_bytes(numbers[:at] + [value] + numbers[at + 1:]))
            self.assertTrue(found is None or found > place, (at, value, found))
        for value in (least - 1, most + 1, most + 128, 10 ** 30):
            if value >= 0:
                self.assertEqual(fault_of(joined_bytes(numbers[:at] + [value] + numbers[at + 1:])), place, (at, value))

    def action(self, numbers, at, least, most):
        self.check(BEFORE_ACTION + numbers, len(BEFORE_ACTION) + at, least, most)

    def content(self, numbers, at, least, most):
        self.check(BEFORE_CONTENT + numbers, len(BEFORE_CONTENT) + at, least, most)

    def tree(self, numbers, at, least, most):
        self.check(BEFORE_TREE + numbers, len(BEFORE_TREE) + at, least, most)

    def line(self, check, numbers, at):
        check(numbers, at, 0, 4)
        check(numbers, at + 1, 0, 100000)

    def test_e6_beginning(self):
        self.check([3, 2, 0], 0, 0, 8)
        self.check([3, 2, 0], 1, 0, 6)
        self.check([3, 2, 0], 2, 0, 100000)

    def test_e6_edit(self):
        self.check(BEFORE_ACTION + [4, 1], 3, 1, 4)
        self.check(BEFORE_ACTION + [4, 1], 4, 1, 100000)
        for at in (5, 6, 7, 8):
            self.check(BEFORE_ACTION + [4, 1], at, 0, 100000)
        self.check(BEFORE_ACTION + [4, 1], 9, 0, 4)

    def test_e6_insert(self):
        numbers = [0, 0, 1, 0, 1, 1, 0, 2]
        self.action(numbers, 1, 0, 1)
        self.action(numbers, 2, 0, 1)
        self.line(self.action, numbers, 3)
        self.action(numbers, 5, 0, 1)
        self.line(self.action, numbers, 6)

    def test_e6_delete(self):
        self.action([1, 0, 0, 1], 1, 0, 1)
        self.line(self.action, [1, 0, 0, 1], 2)

    def test_e6_write(self):
        self.action([2, 1, 0, 1, 0, 2, 0], 1, 0, 100000)
        self.line(self.action, [2, 1, 0, 1, 0, 2, 0], 2)
        self.line(self.action, [2, 1, 0, 1, 0, 2, 0], 4)

    def test_e6_name(self):
        numbers = [3, 2, 97, 98, 1, 0, 1, 0, 1, 0, 1, 0, 1]
        self.action(numbers, 1, 2, 8)
        self.action(numbers, 2, 97, 122)
        self.action(numbers, 3, 97, 122)
        self.action(numbers, 4, 0, 4)
        for at in (5, 7, 9, 11):
            self.line(self.action, numbers, at)

    def test_e6_undo(self):
        self.action([4, 1], 1, 1, 100000)

    def test_e6_contents(self):
        self.content([0], 0, 0, 3)
        self.content([1, 1, 65], 1, 1, 60)
        self.content([1, 1, 65], 2, 32, 126)
        self.content([1, 2, 65, 65], 3, 38, 126)
        self.content([1, 2, 65, 65], 3, 32, 36)
        self.content([2, 3, 2], 1, 0, 10 ** 20)
        self.content([2, 3, 2], 2, 1, 10 ** 20)

    def test_e6_no_percent_sign(self):
        numbers = BEFORE_CONTENT + [1, 3, 65, 37, 65]
        self.assertEqual(fault_of(joined_bytes(numbers)), start_of(numbers, len(numbers) - 2))

    def test_e6_trees(self):
        self.tree([2], 0, 0, 5)
        self.tree([0, 3, 2], 1, 0, 10 ** 20)
        self.tree([0, 3, 2], 2, 1, 10 ** 20)
        self.line(self.tree, [1, 0, 1, 0, 1], 1)
        self.line(self.tree, [1, 0, 1, 0, 1], 3)
        self.tree([3, 0, 1, 0], 1, 0, 3)
        self.tree([3, 0, 1, 0], 2, 0, 100000)
        self.tree([4, 2], 1, 0, 5)
        self.tree([5, 0, 2, 2], 1, 0, 3)
        self.tree([5, 0, 2, 2], 2, 0, 5)
        self.tree([5, 0, 2, 2], 3, 0, 5)

    def test_e6_areas(self):
        self.tree([3, 0, 1, 0], 3, 0, 2)
        numbers = [3, 0, 1, 1, 0, 1, 0, 1, 0, 1, 0, 1]
        for at in (4, 6, 8, 10):
            self.line(self.tree, numbers, at)
        self.tree([3, 0, 1, 2, 2, 97, 98], 4, 2, 8)
        self.tree([3, 0, 1, 2, 2, 97, 98], 5, 97, 122)
        self.tree([3, 0, 1, 2, 2, 97, 98], 6, 97, 122)

    def test_e6_lengths_at_the_edge(self):
        for text in ("a", "b" * 60):
            edits = one_edit(("write", ((ROW, COLUMN, ("text", text)),)))
            self.assertEqual(read_update(write_update(BEGIN, edits)), (BEGIN, edits))
        for word in ("zz", "abcdefgh"):
            edits = one_edit(("name", word, (((0, 1), (0, 1), (0, 1), (0, 1)),) * 4))
            self.assertEqual(read_update(write_update(BEGIN, edits)), (BEGIN, edits))

    def test_e6_nothing_else_is_looked_at(self):
        for action in (("name", "sum", ()), ("write", ((ROW, COLUMN, ("number", (4, 2))),)), ("undo", 99),
                       ("delete", "row", (0, 0)), ("write", ((ROW, COLUMN, ("formula", ("call", "sum", ()))),)),
                       ("write", ((ROW, COLUMN, ("formula", ("num", (-1, 3)))),) * 2),
                       ("write", ((ROW, COLUMN, ("number", (5 * 10 ** 19, 10 ** 20))),)),
                       ("write", ((ROW, COLUMN, ("number", (-5 * 10 ** 19, 10 ** 20))),)),
                       ("write", ((ROW, COLUMN, ("text", "12")),)), ("insert", "row", (0, 1), (0, 1))):
            edits = one_edit(action)
            self.assertEqual(read_update(write_update(BEGIN, edits)), (BEGIN, edits))


class LargeTrees(unittest.TestCase):
    def check(self, tree, fault):
        """The fault is the index of an integer of the tree, or None."""
        edits = one_tree(tree)
        data = write_update(BEGIN, edits)
        if fault is None:
            self.assertEqual(read_update(data), (BEGIN, edits))
        else:
            self.assertEqual(fault_of(data), start_of(BEFORE_TREE, len(BEFORE_TREE)) + fault)

    def test_e6_sixty_in_a_row(self):
        tree = ("gone",)
        for _ in range(59):
            tree = ("neg", tree)
        self.check(tree, None)
        self.check(("neg", tree), 60)
        self.check(("neg", ("neg", tree)), 60)

    def test_e6_sixty_areas(self):
        self.check(("call", "sum", (("gone",),) * 59), None)
        self.check(("call", "sum", (("gone",),) * 60), 62)
        self.check(("call", "sum", (("name", "ab"),) * 61), 3 + 59 * 4)

    def test_e6_trees_and_areas_together(self):
        call = ("call", "max", (("gone",), ("gone",)))
        tree = call
        for _ in range(14):
            tree = ("op", "+", tree, call)
        # 15 calls with 45 trees and areas, and 14 operators: 59 in all.
        self.check(("neg", tree), None)
        self.check(("neg", ("neg", tree)), 2 + 14 * 2 + 15 * 5 - 1)

    def test_e6_deep_on_the_left_and_on_the_right(self):
        left = right = ("gone",)
        for _ in range(29):
            left = ("op", "-", left, ("gone",))
            right = ("op", "-", ("gone",), right)
        self.check(("neg", left), None)
        self.check(("neg", right), None)
        self.check(("op", "-", left, ("gone",)), 30 * 2 + 30)
        self.check(("op", "-", ("gone",), right), 30 * 3)

    def test_e6_each_tree_has_a_count_of_its_own(self):
        call = ("formula", ("call", "sum", (("gone",),) * 59))
        edits = one_edit(("write", ((ROW, COLUMN, call), (COLUMN, ROW, call))))
        self.assertEqual(read_update(write_update(BEGIN, edits)), (BEGIN, edits))

    def test_e6_the_bytes_end_at_the_next_one(self):
        data = write_update(BEGIN, one_tree(("call", "sum", (("gone",),) * 60)))
        self.assertEqual(fault_of(data[:-1]), len(data) - 1)


class WrongBytes(unittest.TestCase):
    def samples(self, many):
        for start in range(many):
            yield write_update(BEGIN, samples.edits(random.Random(start), 6))

    def starts(self, data):
        return [at for at in range(len(data)) if at == 0 or data[at - 1] < 128]

    def test_e7_no_bytes(self):
        self.assertEqual(fault_of([]), 0)
        self.assertEqual(fault_of([3]), 1)
        self.assertEqual(fault_of([3, 2]), 2)

    def test_e7_cut_behind_each_byte(self):
        for data in self.samples(15):
            starts = self.starts(data)
            for at in range(len(data)):
                want = max(start for start in starts + [0] if start <= at)
                self.assertEqual(fault_of(data[:at]), want)

    def test_e7_integers_that_are_not_ended(self):
        self.assertEqual(fault_of([128]), 0)
        self.assertEqual(fault_of([3, 130, 255]), 1)
        self.assertEqual(fault_of([3, 2, 128, 128, 128]), 2)
        self.assertEqual(fault_of([255] * 4000), 0)

    def test_e7_integers_in_a_longer_way(self):
        self.assertEqual(fault_of([131, 0, 2, 0]), 0)
        self.assertEqual(fault_of([3, 128, 0, 0]), 1)
        self.assertEqual(fault_of([3, 2, 128, 128, 0]), 2)
        for data in self.samples(10):
            starts = self.starts(data) + [len(data)]
            for start, end in zip(starts, starts[1:]):
                longer = data[:end - 1] + [data[end - 1] + 128, 0] + data[end:]
                self.assertEqual(fault_of(longer), start)

    def test_e7_bytes_left_over(self):
        for data in self.samples(10):
            for rest in ([0], [1], [128], [128, 0], [255] * 5):
                self.assertEqual(fault_of(data + rest), len(data))

    def edit(self, person, number, *seen):
        return [person, number] + list(seen) + [4, 1]

    def check(self, edits, at, place=0):
        """A fault in the edit with this index, at this integer of it; None for no fault."""
        data = [3, 2, len(edits)] + sum(edits, [])
        want = None if at is None else len([3, 2, len(edits)] + sum(edits[:at], [])) + place
        self.assertEqual(fault_of(data), want)

    def test_e7_edits_behind_one_another(self):
        self.check([self.edit(1, 1, 0, 0, 0, 0), self.edit(1, 2, 1, 0, 0, 0)], None)
        self.check([self.edit(1, 1, 0, 0, 0, 0), self.edit(2, 1, 0, 0, 0, 0)], None)
        self.check([self.edit(1, 1, 0, 0, 0, 0), self.edit(1, 2, 0, 0, 0, 0)], None)
        self.check([self.edit(4, 9, 0, 0, 0, 0), self.edit(1, 2, 0, 0, 1, 0)], None)

    def test_e7_edits_changed_about(self):
        self.check([self.edit(1, 2, 1, 0, 0, 0), self.edit(1, 1, 0, 0, 0, 0)], 1)
        self.check([self.edit(2, 1, 0, 0, 0, 0), self.edit(1, 1, 0, 0, 0, 0)], 1)
        self.check([self.edit(1, 2, 0, 0, 0, 0), self.edit(1, 1, 0, 0, 0, 0)], 1)
        self.check([self.edit(1, 1, 0, 0, 0, 0), self.edit(3, 1, 0, 0, 1, 0), self.edit(2, 1, 0, 1, 0, 0)], 2)

    def test_e7_an_edit_told_twice(self):
        self.check([self.edit(1, 1, 0, 0, 0, 0), self.edit(1, 1, 0, 0, 0, 0)], 1)
        self.check([self.edit(1, 1, 0, 0, 0, 0), self.edit(1, 1, 1, 0, 0, 0)], 1)
        self.check([self.edit(1, 1, 0, 0, 0, 0), self.edit(2, 1, 1, 0, 0, 0), self.edit(1, 1, 2, 0, 0, 0)], 2)
        self.check([self.edit(1, 1, 0, 0, 0, 0), self.edit(2, 1, 1, 0, 0, 0), self.edit(2, 2, 2, 0, 0, 0)], None)

    def test_e7_the_edit_is_looked_at_behind_its_version(self):
        first = self.edit(2, 1, 0, 0, 0, 0)
        self.check([first, [1, 1, 0, 0, 0, 0, 5]], 1)
        self.check([first, [1, 1, 0, 0, 0, 0, 4, 0]], 1)
        self.check([first, [1, 1, 0, 0, 0]], 1, 5)
        self.check([first, [0, 1, 0, 0, 0, 0, 4, 1]], 1)
        self.check([first, [1, 0, 0, 0, 0, 0, 4, 1]], 1, 1)
        self.check([first, [1, 1, 0, 0, 128, 0, 4, 1]], 1, 4)
        self.check([first, [1, 1, 0, 0, 0, 0]], 1)
        self.check([first, [3, 1, 0, 0, 0, 0]], 1, 6)

    def test_e7_any_edit_is_the_first_one(self):
        self.check([self.edit(4, 127, 9, 9, 9, 9)], None)

    def test_e7_fewer_and_more_edits_than_told(self):
        first = self.edit(1, 1, 0, 0, 0, 0)
        self.assertEqual(fault_of([3, 2, 2] + first), 11)
        self.assertEqual(fault_of([3, 2, 0] + first), 3)
        self.assertEqual(fault_of(joined_bytes([3, 2, 100000]) + first), 13)

    def test_e7_changed_bytes(self):
        chance = random.Random(7)
        good = 0
        for data in self.samples(60):
            for _ in range(60):
                changed = list(data)
                for _ in range(chance.randint(1, 2)):
                    at = chance.randrange(len(changed))
                    more = [chance.choice((0, 1, 2, 3, 4, 5, 37, 97, 127, 128, 129, 255))]
                    changed[at:at + chance.randrange(2)] = more[:chance.randrange(3)]
                expected = Expected(changed)
                want = expected.fault()
                self.assertEqual(fault_of(changed), want, changed)
                if want is None:
                    good += 1
                    self.assertEqual(read_update(changed), expected.found)
        self.assertGreater(good, 100)

    def test_e7_a_read_update_is_written_with_the_same_bytes(self):
        for data in self.samples(30):
            self.assertEqual(write_update(*read_update(data)), data)


if __name__ == "__main__":
    unittest.main()
