"""Which edits are in force: u1."""

import itertools
import random
import unittest

import samples
from tablemates.effects import in_force, in_force_without

DELETE = ("delete", "row", (0, 1))


def made(person, *undone):
    """Edits of a person: an undo of each number, an edit of another kind for None."""
    found = []
    for number, target in enumerate(undone, 1):
        seen = [0, 0, 0, 0]
        seen[person - 1] = number - 1
        action = DELETE if target is None else ("undo", target)
        found.append(((person, number), tuple(seen), action))
    return found


def expected(edits):
    """The words of u1, from each edit to those that undo it."""
    def holds(edit_id):
        undoing = [one[0] for one in edits
                   if one[2] == ("undo", edit_id[1]) and one[0][0] == edit_id[0] and one[0][1] > edit_id[1]]
        return not any(holds(other) for other in undoing)
    return sorted(one[0] for one in edits if holds(one[0]))


class InForce(unittest.TestCase):
    def check(self, edits, want):
        for mixed in itertools.islice(itertools.permutations(edits), 24):
            self.assertEqual(in_force(list(mixed)), want)

    def test_u1_without_undos(self):
        self.check([], [])
        self.check(made(1, None, None) + made(2, None), [(1, 1), (1, 2), (2, 1)])

    def test_u1_undone(self):
        self.check(made(1, None, 1), [(1, 2)])
        self.check(made(1, None, None, 1), [(1, 2), (1, 3)])

    def test_u1_only_edits_of_the_same_person(self):
        self.check(made(1, None) + made(2, None, 1), [(1, 1), (2, 2)])
        self.check(made(3, None, None) + made(4, None, None, 2), [(3, 1), (3, 2), (4, 1), (4, 3)])

    def test_u1_only_edits_with_a_smaller_number(self):
        self.check(made(1, 1), [(1, 1)])
        self.check(made(1, 2, None), [(1, 1), (1, 2)])
        self.check(made(1, 2, 1), [(1, 2)])

    def test_u1_an_undo_of_an_undo(self):
        self.check(made(1, None, 1, 2), [(1, 1), (1, 3)])
        self.check(made(1, None, 1, 2, 3), [(1, 2), (1, 4)])

    def test_u1_two_undos_of_one_edit(self):
        self.check(made(1, None, 1, 1), [(1, 2), (1, 3)])
        self.check(made(1, None, 1, 1, 2), [(1, 3), (1, 4)])
        self.check(made(1, None, 1, 1, 2, 3), [(1, 1), (1, 4), (1, 5)])

    def test_u1_over_many_steps(self):
        for many in (57, 58, 59, 60, 400):
            chain = made(1, *([None] + list(range(1, many))))
            want = [(1, number) for number in range(1, many + 1) if (many - number) % 2 == 0]
            self.check(chain, want)

    def test_u1_of_any_list(self):
        self.check([((1, 5), (4, 0, 0, 0), ("undo", 2))], [(1, 5)])
        self.check([((1, 5), (4, 0, 0, 0), ("undo", 2)), ((1, 2), (0, 0, 0, 0), DELETE)], [(1, 5)])

    def test_u1_whatever_the_versions_are(self):
        for numbers in itertools.permutations((1, 2, 3)):
            edits = []
            for number, entry in zip((1, 2, 3), numbers):
                edits.append(((3, number), (0, entry, 0, 0), DELETE if number == 1 else ("undo", number - 1)))
            self.check(edits, [(3, 1), (3, 3)])

    def test_u1_random_lists(self):
        for start in range(40):
            edits = samples.edits(random.Random(start), 40)
            self.assertEqual(in_force(edits), expected(edits))
            self.assertEqual(in_force(edits[:25]), expected(edits[:25]))
        chance = random.Random(1)
        for _ in range(100):
            edits = made(2, *[chance.choice((None, chance.randint(1, 12))) for _ in range(12)])
            self.assertEqual(in_force(edits), expected(edits))

    def test_u1_the_list_stays_as_it_is(self):
        edits = made(1, None, 1, 2)
        in_force(edits)
        in_force_without(edits, (1,))
        self.assertEqual(edits, made(1, None, 1, 2))


class Without(unittest.TestCase):
    EDITS = made(1, None, 1) + made(2, None, None, 2) + made(4, None, 1, 2)

    def test_u1_without_nobody(self):
        self.assertEqual(in_force_without(self.EDITS, ()), in_force(self.EDITS))

    def test_u1_without_some_persons(self):
        self.assertEqual(in_force(self.EDITS), [(1, 2), (2, 1), (2, 3), (4, 1), (4, 3)])
        self.assertEqual(in_force_without(self.EDITS, (2,)), [(1, 2), (4, 1), (4, 3)])
        self.assertEqual(in_force_without(self.EDITS, (1, 4)), [(2, 1), (2, 3)])
        self.assertEqual(in_force_without(self.EDITS, (3,)), in_force(self.EDITS))
        self.assertEqual(in_force_without(self.EDITS, (4, 3, 2, 1)), [])

    def test_u1_undone_edits_stay_undone(self):
        self.assertNotIn((1, 1), in_force_without(self.EDITS, (1,)))


if __name__ == "__main__":
    unittest.main()
