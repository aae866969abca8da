"""The line order: l1, over e3 and e4."""

import copy
import itertools
import random
import unittest

import tables
from tablemates.orders import line_order


def insert(edit_id, seen, left, right, axis="row"):
    return (edit_id, seen, ("insert", axis, left, right))


def worked_through(begin, edits, axis):
    """The words of l1, for a list in an order in which each edit comes behind all that it has seen."""
    lines = tables.first_lines(begin, axis)
    inserts = {edit[0]: edit for edit in tables.inserts_of(edits, axis)}

    def priority(line, edit):
        if line not in inserts:
            return False
        return (tables.stamp_of(inserts[line]), line[0]) > (tables.stamp_of(edit), edit[0][0])

    for edit in tables.inserts_of(edits, axis):
        at = 0 if edit[2][2] is None else lines.index(edit[2][2]) + 1
        while at < len(lines) and priority(lines[at], edit):
            at += 1
        lines.insert(at, edit[0])
    return lines


class LineOrder(unittest.TestCase):
    def check(self, begin, edits, want, axis="row"):
        """The list in every order, and the words of l1 in every order that they allow."""
        for listed in itertools.islice(itertools.permutations(edits), 120):
            self.assertEqual(line_order(begin, list(listed), axis), want, listed)
            behind = all(not tables.sees(edit, other[0]) for at, edit in enumerate(listed) for other in listed[at:])
            if behind:
                self.assertEqual(worked_through(begin, listed, axis), want, listed)

    def test_l1_the_lines_of_the_beginning(self):
        self.check((3, 2), [], [(0, 1), (0, 2), (0, 3)])
        self.check((3, 2), [], [(0, 1), (0, 2)], "column")
        self.check((0, 6), [], [])
        self.check((8, 0), [], [], "column")

    def test_l1_at_the_front_between_and_at_the_end(self):
        self.check((2, 0), [insert((1, 1), (0, 0, 0, 0), None, (0, 1))], [(1, 1), (0, 1), (0, 2)])
        self.check((2, 0), [insert((1, 1), (0, 0, 0, 0), (0, 1), (0, 2))], [(0, 1), (1, 1), (0, 2)])
        self.check((2, 0), [insert((1, 1), (0, 0, 0, 0), (0, 2), None)], [(0, 1), (0, 2), (1, 1)])

    def test_l1_axes_are_apart(self):
        edits = [insert((1, 1), (0, 0, 0, 0), None, (0, 1), "column"), insert((1, 2), (1, 0, 0, 0), (0, 1), None)]
        self.check((1, 1), edits, [(0, 1), (1, 2)], "row")
        self.check((1, 1), edits, [(1, 1), (0, 1)], "column")

    def test_l1_other_edits_put_no_line_in(self):
        edits = [((1, 1), (0, 0, 0, 0), ("delete", "row", (0, 1))), ((1, 2), (1, 0, 0, 0), ("undo", 1)),
                 ((2, 1), (0, 0, 0, 0), ("write", ())), ((2, 2), (0, 1, 0, 0), ("name", "ab", ()))]
        self.check((2, 2), edits, [(0, 1), (0, 2)])

    def test_l1_no_line_of_the_beginning(self):
        first = insert((1, 1), (0, 0, 0, 0), None, None)
        second = insert((2, 1), (0, 0, 0, 0), None, None)
        self.check((0, 0), [first], [(1, 1)])
        self.check((0, 0), [first, second], [(2, 1), (1, 1)])
        third = insert((3, 1), (1, 1, 0, 0), (2, 1), (1, 1))
        self.check((0, 0), [first, second, third], [(2, 1), (3, 1), (1, 1)])

    def test_l1_one_place_and_one_stamp(self):
        for left, right in ((None, (0, 1)), ((0, 1), (0, 2)), ((0, 2), None)):
            edits = [insert((person, 1), (0, 0, 0, 0), left, right) for person in (1, 2, 3, 4)]
            at = 0 if left is None else left[1]
            lines = [(0, 1), (0, 2)]
            self.check((2, 2), edits, lines[:at] + [(4, 1), (3, 1), (2, 1), (1, 1)] + lines[at:])

    def test_l1_one_place_and_different_stamps(self):
        late = insert((1, 1), (0, 1, 0, 0), (0, 1), (0, 2))
        edits = [((2, 1), (0, 0, 0, 0), ("name", "ab", ())), late, insert((3, 1), (0, 0, 0, 0), (0, 1), (0, 2))]
        self.check((2, 0), edits, [(0, 1), (1, 1), (3, 1), (0, 2)])

    def test_l1_a_greater_stamp_goes_before_a_greater_person(self):
        edits = [insert((1, 1), (0, 0, 0, 1), None, (0, 1)), insert((3, 1), (0, 0, 0, 0), None, (0, 1)),
                 ((4, 1), (0, 0, 0, 0), ("name", "ab", ()))]
        self.check((1, 1), edits, [(1, 1), (3, 1), (0, 1)])

    def test_l1_one_person_at_one_place(self):
        edits = [insert((1, 1), (0, 0, 0, 0), (0, 1), (0, 2)), insert((1, 2), (1, 0, 0, 0), (0, 1), (1, 1)),
                 insert((1, 3), (2, 0, 0, 0), (0, 1), (1, 2))]
        self.check((2, 0), edits, [(0, 1), (1, 3), (1, 2), (1, 1), (0, 2)])

    def test_l1_chains_behind_an_inserted_line(self):
        chain = [insert((1, 1), (0, 0, 0, 0), (0, 1), (0, 2)), insert((1, 2), (1, 0, 0, 0), (1, 1), (0, 2)),
                 insert((1, 3), (2, 0, 0, 0), (1, 2), (0, 2))]
        self.check((2, 0), chain, [(0, 1), (1, 1), (1, 2), (1, 3), (0, 2)])
        other = insert((2, 1), (0, 0, 0, 0), (0, 1), (0, 2))
        self.check((2, 0), chain + [other], [(0, 1), (2, 1), (1, 1), (1, 2), (1, 3), (0, 2)])

    def test_l1_chains_of_two_persons_do_not_mix(self):
        edits = []
        for person in (1, 2):
            left = (0, 1)
            for number in (1, 2, 3):
                seen = (number - 1, 0, 0, 0) if person == 1 else (0, number - 1, 0, 0)
                edits.append(insert((person, number), seen, left, (0, 2)))
                left = (person, number)
        want = [(0, 1), (2, 1), (2, 2), (2, 3), (1, 1), (1, 2), (1, 3), (0, 2)]
        self.check((2, 0), edits, want)

    def test_l1_a_line_with_priority_takes_those_behind_it_along(self):
        # (2, 2) stands behind (2, 1); person 1 has seen neither, and comes behind both.
        edits = [insert((2, 1), (0, 0, 0, 0), (0, 1), None), insert((2, 2), (0, 1, 0, 0), (2, 1), None),
                 insert((1, 1), (0, 0, 0, 0), (0, 1), None)]
        self.check((1, 0), edits, [(0, 1), (2, 1), (2, 2), (1, 1)])

    def test_l1_inserts_that_are_not_in_force_keep_their_place(self):
        edits = [insert((1, 1), (0, 0, 0, 0), (0, 1), (0, 2)), ((1, 2), (1, 0, 0, 0), ("undo", 1)),
                 insert((1, 3), (2, 0, 0, 0), (0, 1), (0, 2)), insert((2, 1), (1, 0, 0, 0), (1, 1), (0, 2))]
        self.check((2, 0), edits, [(0, 1), (1, 3), (1, 1), (2, 1), (0, 2)])

    def test_l1_deleted_lines_keep_their_place(self):
        edits = [((1, 1), (0, 0, 0, 0), ("delete", "row", (0, 2))),
                 insert((1, 2), (1, 0, 0, 0), (0, 1), (0, 3)), insert((2, 1), (0, 0, 0, 0), (0, 2), (0, 3))]
        self.check((3, 0), edits, [(0, 1), (1, 2), (0, 2), (2, 1), (0, 3)])

    def test_l1_random_tables(self):
        for start in range(80):
            chance = random.Random(start)
            table = tables.random_table(chance, 45)
            edits = table.edits()
            for axis in tables.AXES:
                want = tables.order_by_tree(table.begin, edits, axis)
                for _ in range(3):
                    self.assertEqual(line_order(table.begin, tables.mixed(chance, edits), axis), want)
                    order = tables.random_order(chance, edits)
                    self.assertEqual(worked_through(table.begin, order, axis), want)

    def test_l1_each_copy_has_its_lines_in_the_order_of_all(self):
        for start in range(20):
            table = tables.random_table(random.Random(start), 40)
            whole = line_order(table.begin, table.edits(), "row")
            for person in tables.PERSONS:
                part = line_order(table.begin, table.edits(person), "row")
                self.assertEqual(part, [line for line in whole if line in part])

    def test_basics_arguments_stay_as_they_are_and_results_are_new(self):
        edits = [insert((1, 2), (1, 0, 0, 0), (1, 1), None), insert((1, 1), (0, 0, 0, 0), None, None)]
        before = copy.deepcopy(edits)
        first = line_order((0, 0), edits, "row")
        self.assertEqual(edits, before)
        first.append((0, 9))
        self.assertEqual(line_order((0, 0), edits, "row"), [(1, 1), (1, 2)])


if __name__ == "__main__":
    unittest.main()
