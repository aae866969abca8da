"""Edits, their order, and closed lists: e2, e3 and e4."""

import copy
import itertools
import random
import unittest

import samples
from tablemates.edit import closed, has_seen, ordered, stamp, version_of

DELETE = ("delete", "row", (0, 1))


def edit(person, number, *seen, action=DELETE):
    return ((person, number), seen, action)


FIRST = edit(1, 1, 0, 0, 0, 0)
SECOND = edit(1, 2, 1, 0, 0, 0)
OTHER = edit(2, 1, 0, 0, 0, 0)
THIRD = edit(1, 3, 2, 1, 0, 0)
LATE = edit(3, 1, 3, 1, 0, 0)


def expected_closed(edits):
    """The words of e4, with sets of ids."""
    ids = [one[0] for one in edits]
    if len(set(ids)) < len(ids):
        return False
    for person, number in ids:
        if number > 1 and (person, number - 1) not in ids or number < 1:
            return False
    for (person, number), seen, _ in edits:
        counted = {(other, k) for other in (1, 2, 3, 4) for k in range(1, seen[other - 1] + 1)}
        if seen[person - 1] != number - 1 or not counted <= set(ids):
            return False
        for other_id, other_seen, _ in edits:
            if other_id in counted and any(mine < theirs for mine, theirs in zip(seen, other_seen)):
                return False
    return True


class Order(unittest.TestCase):
    def test_e3_stamp(self):
        self.assertEqual(stamp(edit(2, 1, 3, 0, 0, 0)), 4)
        self.assertEqual(stamp(FIRST), 1)
        self.assertEqual(stamp(edit(4, 8, 1, 2, 3, 7)), 14)

    def test_e2_has_seen(self):
        self.assertIs(has_seen(SECOND, FIRST), True)
        self.assertIs(has_seen(FIRST, SECOND), False)
        self.assertIs(has_seen(FIRST, FIRST), False)
        self.assertIs(has_seen(OTHER, FIRST), False)
        self.assertIs(has_seen(THIRD, OTHER), True)
        self.assertIs(has_seen(THIRD, edit(2, 2, 0, 1, 0, 0)), False)
        self.assertIs(has_seen(LATE, THIRD), True)

    def test_e3_order_by_stamp(self):
        self.assertEqual(ordered([THIRD, SECOND, FIRST]), [FIRST, SECOND, THIRD])
        late = edit(1, 1, 0, 0, 5, 0)
        self.assertEqual(ordered([late, edit(4, 2, 0, 0, 0, 1)]), [edit(4, 2, 0, 0, 0, 1), late])

    def test_e3_equal_stamps_by_person(self):
        four = [edit(person, 1, 0, 0, 0, 0) for person in (1, 2, 3, 4)]
        for mixed in itertools.permutations(four):
            self.assertEqual(ordered(list(mixed)), four)
        self.assertEqual(ordered([edit(2, 3, 0, 2, 0, 0), edit(1, 9, 0, 0, 2, 0)]),
                         [edit(1, 9, 0, 0, 2, 0), edit(2, 3, 0, 2, 0, 0)])

    def test_e3_equal_stamps_and_persons_by_number(self):
        self.assertEqual(ordered([edit(1, 10, 2, 0, 0, 0), edit(1, 9, 1, 1, 0, 0)]),
                         [edit(1, 9, 1, 1, 0, 0), edit(1, 10, 2, 0, 0, 0)])

    def test_e3_any_list_in_any_order(self):
        twice = [FIRST, edit(1, 1, 0, 0, 0, 0, action=("undo", 1)), edit(1, 1, 0, 0, 0, 0, action=("name", "ab", ())),
                 edit(1, 1, 1, 0, 0, 0), FIRST]
        want = ordered(twice)
        for mixed in itertools.permutations(twice):
            self.assertEqual(ordered(list(mixed)), want)
        self.assertEqual(want[-1], edit(1, 1, 1, 0, 0, 0))

    def test_e3_an_edit_comes_behind_all_that_it_has_seen(self):
        for start in range(20):
            edits = ordered(samples.edits(random.Random(start), 40))
            for at, later in enumerate(edits):
                for other in edits[at:]:
                    self.assertFalse(has_seen(later, other))

    def test_e3_the_list_stays_as_it_is(self):
        mixed = [SECOND, FIRST]
        self.assertEqual(ordered(mixed), [FIRST, SECOND])
        self.assertEqual(mixed, [SECOND, FIRST])
        once = [FIRST]
        self.assertIsNot(ordered(once), once)
        self.assertEqual(ordered([]), [])

    def test_version_of(self):
        self.assertEqual(version_of([]), (0, 0, 0, 0))
        self.assertEqual(version_of([LATE, FIRST, OTHER, SECOND, THIRD]), (3, 1, 1, 0))
        self.assertEqual(version_of([edit(4, 7, 0, 0, 0, 6)]), (0, 0, 0, 1))
        self.assertIsInstance(version_of([]), tuple)


class Closed(unittest.TestCase):
    def check(self, edits, want):
        before = copy.deepcopy(edits)
        for mixed in itertools.islice(itertools.permutations(edits), 24):
            self.assertIs(closed(list(mixed)), want, mixed)
        self.assertEqual(edits, before)
        self.assertIs(expected_closed(edits), want)

    def test_e4_closed_lists(self):
        self.check([], True)
        self.check([FIRST], True)
        self.check([FIRST, OTHER], True)
        self.check([FIRST, SECOND, OTHER, THIRD], True)
        self.check([FIRST, SECOND, OTHER, THIRD, LATE], True)

    def test_e4_gaps_in_the_numbers(self):
        self.check([SECOND], False)
        self.check([FIRST, edit(1, 3, 2, 0, 0, 0)], False)
        self.check([edit(1, 0, -1, 0, 0, 0)], False)
        self.check([edit(1, 2, 1, 0, 0, 0), edit(1, 3, 2, 0, 0, 0)], False)

    def test_e4_an_id_twice(self):
        self.check([FIRST, FIRST], False)
        self.check([FIRST, edit(1, 1, 0, 0, 0, 0, action=("name", "ab", ()))], False)
        self.check([FIRST, FIRST, SECOND], False)
        self.check([OTHER, FIRST, edit(1, 1, 0, 1, 0, 0)], False)

    def test_e4_wrong_own_entry(self):
        self.check([edit(1, 1, 1, 0, 0, 0)], False)
        self.check([FIRST, edit(1, 2, 0, 0, 0, 0)], False)
        self.check([FIRST, edit(1, 2, 2, 0, 0, 0)], False)
        self.check([FIRST, SECOND, edit(1, 3, 1, 0, 0, 0)], False)

    def test_e4_counts_what_is_not_in_the_list(self):
        self.check([edit(2, 1, 3, 0, 0, 0)], False)
        self.check([edit(2, 1, 1, 0, 0, 0)], False)
        self.check([FIRST, edit(2, 1, 2, 0, 0, 0)], False)
        self.check([FIRST, edit(2, 1, 1, 0, 0, 1)], False)
        self.check([FIRST, edit(2, 1, 1, 0, 0, 0)], True)

    def test_e4_does_not_include_a_version_that_it_counts(self):
        self.check([FIRST, SECOND, OTHER, THIRD, edit(3, 1, 3, 0, 0, 0)], False)
        self.check([OTHER, edit(1, 1, 0, 1, 0, 0), edit(3, 1, 1, 0, 0, 0)], False)
        self.check([OTHER, edit(1, 1, 0, 1, 0, 0), edit(3, 1, 1, 1, 0, 0)], True)
        self.check([OTHER, edit(1, 1, 0, 1, 0, 0), edit(1, 2, 1, 0, 0, 0)], False)

    def test_e4_edits_that_have_seen_each_other(self):
        self.check([edit(1, 1, 0, 1, 0, 0), edit(2, 1, 1, 0, 0, 0)], False)

    def test_e4_random_lists(self):
        for start in range(60):
            chance = random.Random(start)
            edits = samples.edits(chance, 12)
            self.assertIs(closed(edits), True)
            self.assertIs(expected_closed(edits), True)
            for at in range(len(edits)):
                rest = edits[:at] + edits[at + 1:]
                self.assertIs(closed(rest), expected_closed(rest))
                changed = list(edits)
                seen = list(edits[at][1])
                seen[chance.randrange(4)] += chance.choice((-1, 1))
                changed[at] = (edits[at][0], tuple(seen), edits[at][2])
                self.assertIs(closed(changed), expected_closed(changed))

    def test_e4_persons_that_there_are_not(self):
        self.assertIs(closed([edit(5, 1, 0, 0, 0, 0)]), False)
        self.assertIs(closed([edit(0, 1, 0, 0, 0, 0)]), False)

    def test_c2_many_edits(self):
        edits = [edit(1, number, number - 1, 0, 0, 0) for number in range(1, 71)]
        self.assertIs(closed(edits), True)
        self.assertIs(closed(edits[1:]), False)


if __name__ == "__main__":
    unittest.main()
