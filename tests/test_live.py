"""Live lines, and the neighbours of a place: l2."""

import copy
import itertools
import random
import unittest

import tables
from tablemates.effects import in_force, in_force_without
from tablemates.live import live_lines, neighbours


class Live(unittest.TestCase):
    def check(self, table, want, axis="row"):
        edits = table.edits()
        for listed in itertools.islice(itertools.permutations(edits), 60):
            self.assertEqual(live_lines(table.begin, list(listed), axis, in_force(edits)), want)

    def test_l2_the_lines_of_the_beginning(self):
        self.check(tables.Table(2, 3), [(0, 1), (0, 2)])
        self.check(tables.Table(2, 3), [(0, 1), (0, 2), (0, 3)], "column")
        self.check(tables.Table(0, 3), [])

    def test_l2_inserted_lines(self):
        table = tables.Table(2, 2)
        table.insert(1, "row", 1)
        table.insert(1, "row", 3)
        self.check(table, [(0, 1), (1, 1), (0, 2), (1, 2)])
        self.check(table, [(0, 1), (0, 2)], "column")

    def test_l2_a_deleted_line_of_the_beginning(self):
        table = tables.Table(3, 2)
        table.delete(1, "row", 1)
        self.check(table, [(0, 1), (0, 3)])
        self.check(table, [(0, 1), (0, 2)], "column")

    def test_l2_a_deleted_line_that_was_inserted(self):
        table = tables.Table(1, 1)
        table.insert(1, "row", 0)
        table.delete(1, "row", 0)
        self.check(table, [(0, 1)])

    def test_l2_a_delete_that_is_undone(self):
        table = tables.Table(2, 1)
        table.delete(1, "row", 0)
        table.undo(1, 1)
        self.check(table, [(0, 1), (0, 2)])
        table.undo(1, 2)
        self.check(table, [(0, 2)])

    def test_l2_an_insert_that_is_undone(self):
        table = tables.Table(1, 1)
        table.insert(1, "row", 1)
        table.undo(1, 1)
        self.check(table, [(0, 1)])
        table.undo(1, 2)
        self.check(table, [(0, 1), (1, 1)])

    def test_l2_an_undone_insert_of_a_line_that_another_one_wrote_behind(self):
        table = tables.Table(1, 1)
        table.insert(1, "row", 1)
        table.meet(2, 1)
        table.insert(2, "row", 2)
        table.undo(1, 1)
        self.check(table, [(0, 1), (2, 1)])

    def test_l2_a_line_that_two_persons_deleted(self):
        table = tables.Table(2, 1)
        table.delete(1, "row", 0)
        table.delete(2, "row", 0)
        self.check(table, [(0, 2)])
        table.undo(1, 1)
        self.check(table, [(0, 2)])
        table.undo(2, 1)
        self.check(table, [(0, 1), (0, 2)])

    def test_l2_a_line_that_was_deleted_and_its_insert_undone(self):
        table = tables.Table(0, 0)
        table.insert(1, "column", 0)
        table.meet(2, 1)
        table.delete(2, "column", 0)
        table.undo(1, 1)
        self.check(table, [], "column")
        table.undo(2, 1)
        self.check(table, [], "column")
        table.undo(1, 2)
        self.check(table, [(1, 1)], "column")

    def test_l2_all_lines_deleted(self):
        table = tables.Table(1, 1)
        table.delete(1, "row", 0)
        self.check(table, [])

    def test_l2_deletes_of_a_line_of_the_other_axis(self):
        table = tables.Table(2, 2)
        table.delete(1, "column", 1)
        self.check(table, [(0, 1), (0, 2)])
        self.check(table, [(0, 1)], "column")

    def test_l2_only_what_counts_as_in_force(self):
        table = tables.Table(2, 1)
        table.insert(1, "row", 0)
        table.delete(2, "row", 1)
        edits = table.edits()
        self.assertEqual(live_lines((2, 1), edits, "row", []), [(0, 1), (0, 2)])
        self.assertEqual(live_lines((2, 1), edits, "row", in_force_without(edits, (1,))), [(0, 1)])
        self.assertEqual(live_lines((2, 1), edits, "row", in_force_without(edits, (2,))), [(1, 1), (0, 1), (0, 2)])
        self.assertEqual(live_lines((2, 1), edits, "row", in_force_without(edits, (3,))), [(1, 1), (0, 1)])

    def test_l2_random_tables(self):
        for start in range(60):
            chance = random.Random(start)
            table = tables.random_table(chance, 45)
            edits = table.edits()
            for axis in tables.AXES:
                for persons in ((), (1,), (2, 4)):
                    forced = in_force_without(edits, persons)
                    want = tables.live_by_words(table.begin, edits, axis, forced)
                    self.assertEqual(live_lines(table.begin, tables.mixed(chance, edits), axis, forced), want)

    def test_basics_arguments_stay_as_they_are_and_results_are_new(self):
        table = tables.Table(2, 1)
        table.delete(1, "row", 0)
        edits = table.edits()
        forced = in_force(edits)
        before = copy.deepcopy((edits, forced))
        found = live_lines(table.begin, edits, "row", forced)
        self.assertEqual((edits, forced), before)
        found.clear()
        self.assertEqual(live_lines(table.begin, edits, "row", forced), [(0, 2)])


class Neighbours(unittest.TestCase):
    LINES = [(0, 1), (1, 1), (0, 2)]

    def test_l2_at_the_edges(self):
        self.assertEqual(neighbours(self.LINES, 0), (None, (0, 1)))
        self.assertEqual(neighbours(self.LINES, 3), ((0, 2), None))

    def test_l2_between(self):
        self.assertEqual(neighbours(self.LINES, 1), ((0, 1), (1, 1)))
        self.assertEqual(neighbours(self.LINES, 2), ((1, 1), (0, 2)))

    def test_l2_of_no_lines_and_of_one(self):
        self.assertEqual(neighbours([], 0), (None, None))
        self.assertEqual(neighbours([(0, 1)], 0), (None, (0, 1)))
        self.assertEqual(neighbours([(0, 1)], 1), ((0, 1), None))

    def test_l2_any_items(self):
        self.assertEqual(neighbours(["a", 0, None], 2), (0, None))
        self.assertEqual(neighbours(["a", 0, None], 1), ("a", 0))

    def test_basics_the_list_stays_as_it_is(self):
        lines = list(self.LINES)
        neighbours(lines, 1)
        self.assertEqual(lines, self.LINES)


if __name__ == "__main__":
    unittest.main()
