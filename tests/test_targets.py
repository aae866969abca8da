"""The targets of undo and redo: u2."""

import copy
import itertools
import random
import unittest

import tables
from tablemates.targets import redo_target, undo_target

DELETE = ("delete", "row", (0, 1))


def made(person, *undone, seen=(0, 0, 0, 0)):
    """Edits of a person: an undo of each number, an edit of another kind for None."""
    found = []
    for number, target in enumerate(undone, 1):
        version = tuple(number - 1 if at == person - 1 else entry for at, entry in enumerate(seen))
        found.append(((person, number), version, DELETE if target is None else ("undo", target)))
    return found


class Targets(unittest.TestCase):
    def check(self, edits, undo, redo, person=1):
        for listed in itertools.islice(itertools.permutations(edits), 24):
            self.assertEqual(undo_target(list(listed), person), undo, listed)
            self.assertEqual(redo_target(list(listed), person), redo, listed)

    def test_u2_an_empty_list(self):
        for person in tables.PERSONS:
            self.check([], None, None, person)

    def test_u2_a_person_without_edits(self):
        self.check(made(2, None, None, 2), None, None, 1)
        self.check(made(2, None, None, 2), None, None, 3)

    def test_u2_the_last_edit(self):
        self.check(made(1, None), 1, None)
        self.check(made(1, None, None, None), 3, None)

    def test_u2_by_number_and_not_by_the_order_of_digits(self):
        self.check(made(1, *[None] * 11), 11, None)
        self.check(made(1, *[None] * 11, 11, 10), 9, 13)

    def test_u2_undone_edits_are_passed_over(self):
        self.check(made(1, None, 1), None, 2)
        self.check(made(1, None, None, 2), 1, 3)
        self.check(made(1, None, None, 2, 1), None, 4)

    def test_u2_an_undo_is_no_target_of_undo(self):
        self.check(made(1, None, None, 2), 1, 3)

    def test_u2_a_redo(self):
        self.check(made(1, None, 1, 2), 1, None)
        self.check(made(1, None, None, 2, 1, 4), 1, 3)
        self.check(made(1, None, None, 2, 1, 4, 3), 2, None)

    def test_u2_an_undo_of_a_redone_edit(self):
        self.check(made(1, None, 1, 2, 1), None, 4)
        self.check(made(1, None, None, 2, 3, 2), 1, 5)

    def test_u2_an_undo_of_a_redo_is_no_target_of_redo(self):
        # Nobody makes an undo of a redo by a call: it undoes no edit that is no undo.
        self.check(made(1, None, 1, 2, 3), None, 2)

    def test_u2_a_new_edit_behind_an_undo(self):
        self.check(made(1, None, 1, None), 3, None)
        self.check(made(1, None, 1, None, 3), None, 4)
        self.check(made(1, None, 1, None, 3, 4), 3, None)
        self.check(made(1, None, None, 2, None), 4, None)

    def test_u2_a_new_edit_that_is_undone_still_stands_behind_the_undo(self):
        self.check(made(1, None, 1, None, 3, 4, 3), None, 6)
        self.check(made(1, None, None, 2, None, 4, 5, 4), 1, 7)

    def test_u2_edits_of_other_persons_do_not_count(self):
        others = made(2, None, None, 2, seen=(2, 0, 0, 0)) + made(4, None, seen=(2, 3, 0, 0))
        mine = made(1, None, 1)
        self.check(mine + others, None, 2)
        self.check(mine + others, 1, 3, 2)
        self.check(mine + others, 1, None, 4)
        self.check(mine + others, None, None, 3)

    def test_u2_undo_and_redo_beside_two_stacks(self):
        for start in range(150):
            chance = random.Random(start)
            table = tables.Table(2, 2)
            undos = {person: [] for person in tables.PERSONS}
            redos = {person: [] for person in tables.PERSONS}
            for _ in range(30):
                person = chance.choice((1, 1, 1, 2, 3))
                self.step(chance, table, person, undos[person], redos[person])
                for one in tables.PERSONS:
                    self.compare(tables.mixed(chance, table.edits()), one, undos[one], redos[one])

    def step(self, chance, table, person, undos, redos):
        """An edit, an undo or a redo; the stacks hold tuples (edit, last undo of it)."""
        kind = chance.randrange(3)
        if kind == 0:
            undos.append((table.add(person, DELETE)[1], None))
            redos.clear()
        elif kind == 1 and undos:
            number = undos.pop()[0]
            redos.append((number, table.undo(person, number)[1]))
        elif kind == 2 and redos:
            number, undo = redos.pop()
            table.undo(person, undo)
            undos.append((number, None))

    def compare(self, edits, person, undos, redos):
        self.assertEqual(undo_target(edits, person), undos[-1][0] if undos else None)
        self.assertEqual(redo_target(edits, person), redos[-1][1] if redos else None)

    def test_u2_the_targets_do_not_depend_on_the_versions(self):
        apart = made(1, None, 1) + [((2, 1), (0, 0, 0, 0), DELETE), ((2, 2), (2, 1, 0, 0), ("undo", 1))]
        self.check(apart, None, 2, 1)
        self.check(apart, None, 2, 2)

    def test_basics_the_list_stays_as_it_is(self):
        edits = made(1, None, None, 2, 1, 4)
        before = copy.deepcopy(edits)
        undo_target(edits, 1)
        redo_target(edits, 1)
        self.assertEqual(edits, before)


if __name__ == "__main__":
    unittest.main()
