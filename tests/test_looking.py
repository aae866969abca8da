"""Known versions, and what was shown at one: h1; what would be shown without some persons: u1."""

import itertools
import random
import unittest

import deeds
import tables
from deeds import content_of
from tables import Table
from tablemates.effects import in_force_without
from tablemates.errors import UnknownVersion
from tablemates.grids import same
from tablemates.looking import at, grid_at, grid_without, known, versions
from tablemates.sheet import Sheet
from tablemates.states import grid_of
from tablemates.versions import counts, includes, nothing
from tablemates.view import View

ONE = ("number", (1, 1))


def is_known(edits, version):
    """The words of h1."""
    seen = {edit[0]: edit[1] for edit in edits}
    counted = [(person, number) for person in tables.PERSONS for number in range(1, version[person - 1] + 1)]
    return all(one in seen for one in counted) and all(includes(version, seen[one]) for one in counted)


def all_counts(edits):
    """All versions that count no more edits of a person than there are, and some that count one more."""
    most = [sum(edit[0][0] == person for edit in edits) for person in tables.PERSONS]
    return itertools.product(*[range(many + 2) for many in most])


def two_apart():
    """Two edits of person 1, one of person 2 that has seen the first one, one of person 3 that has seen none."""
    table = Table(2, 2)
    table.write(1, (0, 0), ONE)
    table.meet(2, 1)
    table.write(2, (0, 1), ONE)
    table.write(1, (1, 0), ONE)
    table.write(3, (1, 1), ONE)
    return table


class Known(unittest.TestCase):
    def test_h1_the_version_of_no_edits(self):
        self.assertIs(known([], nothing()), True)
        self.assertEqual(versions([]), [(0, 0, 0, 0)])
        self.assertEqual(at([], nothing()), [])
        self.assertIs(known([], (1, 0, 0, 0)), False)

    def test_h1_known(self):
        edits = two_apart().edits()
        for version, want in (
                ((0, 0, 0, 0), True), ((1, 0, 0, 0), True), ((2, 0, 0, 0), True), ((1, 1, 0, 0), True),
                ((2, 1, 1, 0), True), ((0, 0, 1, 0), True), ((0, 1, 0, 0), False), ((0, 1, 1, 0), False),
                ((3, 0, 0, 0), False), ((2, 2, 0, 0), False), ((2, 1, 1, 1), False), ((10 ** 5, 0, 0, 0), False)):
            self.assertIs(known(edits, version), want, version)

    def test_h1_versions(self):
        self.assertEqual(versions(two_apart().edits()), [
            (0, 0, 0, 0), (0, 0, 1, 0), (1, 0, 0, 0), (1, 0, 1, 0), (1, 1, 0, 0), (1, 1, 1, 0),
            (2, 0, 0, 0), (2, 0, 1, 0), (2, 1, 0, 0), (2, 1, 1, 0)])

    def test_h1_by_trying_all(self):
        for seed in range(60):
            chance = random.Random(seed)
            edits = tables.random_table(chance, 16).edits()
            mixed = tables.mixed(chance, edits)
            want = [version for version in all_counts(edits) if is_known(edits, version)]
            self.assertEqual(versions(mixed), sorted(want))
            for version in all_counts(edits):
                self.assertIs(known(mixed, version), version in want)

    def test_h1_versions_of_one_line_of_many_edits(self):
        sheet = Sheet(2, 1, 1)
        for many in range(60):
            sheet.write((0, 0), str(many))
        self.assertEqual(versions(sheet.edits()), [(0, many, 0, 0) for many in range(61)])

    def test_h1_at(self):
        for seed in range(30):
            chance = random.Random(seed)
            edits = tables.random_table(chance, 16).edits()
            for version in versions(edits):
                want = [edit for edit in tables.sorted_edits(edits) if counts(version, edit[0])]
                self.assertEqual(at(tables.mixed(chance, edits), version), want)

    def test_h1_unknown_version(self):
        table = two_apart()
        edits = table.edits()
        for version in ((0, 1, 0, 0), (3, 1, 1, 0), (2, 1, 1, 1)):
            for function, arguments in ((at, (edits, version)), (grid_at, (table.begin, edits, version))):
                with self.assertRaises(UnknownVersion) as caught:
                    function(*arguments)
                self.assertEqual(vars(caught.exception), {})

    def test_h1_what_is_returned_is_new(self):
        edits = two_apart().edits()
        before = list(edits)
        at(edits, (2, 1, 1, 0)).clear()
        versions(edits).clear()
        grid_at((2, 2), edits, (2, 1, 1, 0)).put((0, 0), [])
        self.assertEqual(edits, before)
        self.assertEqual(len(at(edits, (2, 1, 1, 0))), 4)


class Shown(unittest.TestCase):
    def test_h1_the_grid_that_was_shown_then(self):
        noted = 0
        for seed in range(40):
            party = deeds.lived(random.Random(seed), 80)
            party.meet()
            sheet = party.sheets[0]
            edits = tables.mixed(party.chance, sheet.edits())
            for version, held, shown in party.noted:
                self.assertIs(known(edits, version), True)
                self.assertEqual(at(edits, version), held)
                self.assertEqual(content_of(grid_at(sheet.begin(), edits, version)), shown)
                noted += 1
            self.assertTrue(same(grid_at(sheet.begin(), edits, sheet.version()), sheet.grid()))
            self.assertEqual(content_of(grid_at(sheet.begin(), edits, nothing())), sheet.begin() + ({}, {}))
        self.assertGreater(noted, 1000)

    def test_h1_what_is_undone_later_was_shown(self):
        table = Table(1, 1)
        table.write(1, (0, 0), ONE)
        table.undo(1, 1)
        self.assertEqual(grid_at((1, 1), table.edits(), (1, 0, 0, 0)).shown((0, 0)), [ONE])
        self.assertEqual(grid_at((1, 1), table.edits(), (2, 0, 0, 0)).shown((0, 0)), [])

    def test_u1_without_persons(self):
        table = Table(2, 1)
        table.write(1, (0, 0), ONE)
        table.meet_all()
        table.insert(2, "row", 0)
        table.write(2, (1, 0), ("text", "a"))
        edits = table.edits()
        self.assertEqual(content_of(grid_without((2, 1), edits, ())), (3, 1, {(1, 0): [("text", "a")]}, {}))
        self.assertEqual(content_of(grid_without((2, 1), edits, (2,))), (2, 1, {(0, 0): [ONE]}, {}))
        self.assertEqual(content_of(grid_without((2, 1), edits, (1,))), (3, 1, {(1, 0): [("text", "a")]}, {}))
        self.assertEqual(content_of(grid_without((2, 1), edits, (1, 2))), (2, 1, {}, {}))
        self.assertEqual(content_of(grid_without((2, 1), edits, (3, 4))), content_of(grid_without((2, 1), edits, ())))

    def test_u1_without_persons_by_words(self):
        for seed in range(60):
            chance = random.Random(seed)
            table = tables.random_table(chance, 30)
            edits = tables.mixed(chance, table.edits())
            for persons in ((), (1,), (2, 4), (1, 2, 3), (1, 2, 3, 4)):
                forced = in_force_without(edits, persons)
                found = grid_without(table.begin, edits, persons)
                self.assertTrue(same(found, deeds.grid_by_words(table.begin, edits, forced)))
            self.assertTrue(same(grid_without(table.begin, edits, ()), grid_of(table.view())))
            self.assertTrue(same(found, grid_of(View(table.begin, [], []))))


if __name__ == "__main__":
    unittest.main()
