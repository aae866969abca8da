"""Members of a block, and its segments: m2."""

import random
import unittest

import tables
from tablemates.effects import in_force_without
from tablemates.members import members, segments
from tablemates.view import View

A, B, C, D = (0, 1), (0, 2), (0, 3), (0, 4)


class Blocks(unittest.TestCase):
    def check(self, table, seen, first, last, want, want_segments, axis="row"):
        edits = table.edits()
        for listed in (edits, edits[::-1], tables.mixed(random.Random(1), edits)):
            view = View(table.begin, listed, table.view().forced)
            self.assertEqual(members(view, seen, axis, first, last), want)
            self.assertEqual(segments(view, seen, axis, first, last), want_segments)


class Seen(Blocks):
    def test_m2_lines_of_the_beginning(self):
        table = tables.Table(4, 2)
        self.check(table, (0, 0, 0, 0), B, C, [B, C], [(1, 2)])
        self.check(table, (0, 0, 0, 0), A, D, [A, B, C, D], [(0, 3)])
        self.check(table, (0, 0, 0, 0), A, B, [A, B], [(0, 1)], "column")

    def test_m2_one_line(self):
        table = tables.Table(3, 2)
        self.check(table, (0, 0, 0, 0), A, A, [A], [(0, 0)])
        self.check(table, (0, 0, 0, 0), C, C, [C], [(2, 2)])

    def test_m2_inserts_that_were_seen(self):
        table = tables.Table(3, 1)
        table.insert(1, "row", 1)
        table.insert(2, "row", 3)
        self.check(table, (1, 0, 0, 0), A, B, [A, (1, 1), B], [(0, 2)])
        self.check(table, (1, 0, 0, 0), A, (1, 1), [A, (1, 1)], [(0, 1)])
        self.check(table, (0, 1, 0, 0), C, (2, 1), [C, (2, 1)], [(3, 4)])

    def test_m2_seen_lines_between_are_members_wherever_they_were_inserted(self):
        # (1, 1) was put in behind B, which was gone then for its author; the block's edit has seen it.
        table = tables.Table(3, 1)
        table.insert(1, "row", 2)
        table.delete(1, "row", 1)
        self.check(table, (2, 0, 0, 0), A, C, [A, B, (1, 1), C], [(0, 2)])

    def test_m2_columns_do_not_count_for_rows(self):
        table = tables.Table(2, 2)
        table.insert(1, "column", 1)
        self.check(table, (0, 0, 0, 0), A, B, [A, B], [(0, 1)])
        self.check(table, (0, 0, 0, 0), A, B, [A, (1, 1), B], [(0, 2)], "column")


class Unseen(Blocks):
    def test_m2_in_the_middle(self):
        table = tables.Table(3, 1)
        table.insert(1, "row", 1)
        self.check(table, (0, 0, 0, 0), A, C, [A, (1, 1), B, C], [(0, 3)])

    def test_m2_directly_before_the_first_and_behind_the_last_line(self):
        table = tables.Table(4, 1)
        table.insert(1, "row", 1)
        table.insert(1, "row", 4)
        self.check(table, (0, 0, 0, 0), B, C, [B, C], [(2, 3)])

    def test_m2_at_the_edges_of_the_sheet(self):
        table = tables.Table(2, 1)
        table.insert(1, "row", 0)
        table.insert(1, "row", 3)
        self.check(table, (0, 0, 0, 0), A, B, [A, B], [(1, 2)])

    def test_m2_chains_in_the_middle(self):
        table = tables.Table(2, 1)
        table.insert(1, "row", 1)
        table.insert(1, "row", 2)
        table.insert(1, "row", 1)
        self.check(table, (0, 0, 0, 0), A, B, [A, (1, 3), (1, 1), (1, 2), B], [(0, 4)])

    def test_m2_chains_behind_the_last_line(self):
        table = tables.Table(3, 1)
        table.insert(1, "row", 2)
        table.insert(1, "row", 2)
        table.insert(1, "row", 4)
        self.check(table, (0, 0, 0, 0), A, B, [A, B], [(0, 1)])

    def test_m2_between_a_member_and_a_line_that_is_none(self):
        # (1, 2) stands between B, the last line, and (1, 1), which is no member.
        table = tables.Table(3, 1)
        table.insert(1, "row", 2)
        table.insert(1, "row", 2)
        self.check(table, (0, 0, 0, 0), A, B, [A, B], [(0, 1)])
        self.check(table, (1, 0, 0, 0), A, (1, 1), [A, B, (1, 2), (1, 1)], [(0, 3)])

    def test_m2_one_line_takes_no_line_in(self):
        table = tables.Table(2, 1)
        table.insert(1, "row", 1)
        table.insert(1, "row", 0)
        self.check(table, (0, 0, 0, 0), A, A, [A], [(1, 1)])

    def test_m2_the_edit_of_the_block_has_seen_some_of_them(self):
        table = tables.Table(2, 1)
        table.insert(1, "row", 1)
        table.insert(1, "row", 2)
        self.check(table, (1, 0, 0, 0), A, (1, 1), [A, (1, 1)], [(0, 1)])
        self.check(table, (1, 0, 0, 0), (1, 1), B, [(1, 1), (1, 2), B], [(1, 3)])

    def test_m2_inserted_beside_a_line_that_was_gone(self):
        # For person 2 the lines A and C stood side by side: only a block with both takes the new line in.
        table = tables.Table(4, 1)
        table.delete(2, "row", 1)
        table.insert(2, "row", 1)
        table.undo(2, 1)
        self.assertEqual(table.view().live("row"), [A, (2, 2), B, C, D])
        self.check(table, (0, 0, 0, 0), B, C, [B, C], [(2, 3)])
        self.check(table, (0, 0, 0, 0), A, C, [A, (2, 2), B, C], [(0, 3)])
        self.check(table, (0, 0, 0, 0), A, B, [A, B], [(0, 0), (2, 2)])

    def test_m2_a_line_between_the_first_and_the_last_one_that_is_no_member(self):
        # For person 2 the lines B and D stood side by side: the new line stands before C, but is no member.
        table = tables.Table(4, 1)
        table.delete(2, "row", 2)
        table.insert(2, "row", 2)
        table.undo(2, 1)
        self.assertEqual(table.view().live("row"), [A, B, (2, 2), C, D])
        self.check(table, (0, 0, 0, 0), A, C, [A, B, C], [(0, 1), (3, 3)])

    def test_m2_a_line_that_makes_a_gap_is_deleted_and_comes_back(self):
        table = tables.Table(3, 1)
        table.delete(2, "row", 1)
        table.delete(2, "row", 1)
        table.insert(2, "row", 1)
        table.undo(2, 2)
        table.undo(2, 1)
        table.meet(3, 2)
        table.delete(3, "row", 1)
        self.assertEqual(table.view().live("row"), [A, B, C])
        self.check(table, (0, 0, 0, 0), A, C, [A, B, C], [(0, 2)])
        table.undo(3, 1)
        self.check(table, (0, 0, 0, 0), A, C, [A, B, C], [(0, 0), (2, 3)])


class Live(Blocks):
    def test_m2_lines_that_are_not_live_are_members(self):
        table = tables.Table(3, 1)
        table.delete(1, "row", 1)
        self.check(table, (0, 0, 0, 0), A, C, [A, B, C], [(0, 1)])

    def test_m2_the_first_and_the_last_line_are_not_live(self):
        table = tables.Table(4, 1)
        table.delete(1, "row", 0)
        self.check(table, (0, 0, 0, 0), A, C, [A, B, C], [(0, 1)])
        table.delete(1, "row", 1)
        self.check(table, (0, 0, 0, 0), A, C, [A, B, C], [(0, 0)])

    def test_m2_no_member_is_live(self):
        table = tables.Table(3, 1)
        table.delete(1, "row", 0)
        table.delete(1, "row", 0)
        self.check(table, (0, 0, 0, 0), A, B, [A, B], [])
        self.check(table, (0, 0, 0, 0), A, A, [A], [])

    def test_m2_a_line_behind_a_first_line_that_is_gone(self):
        # Its neighbours are B and C, both members, although A is gone.
        table = tables.Table(3, 1)
        table.delete(1, "row", 0)
        table.insert(1, "row", 1)
        table.insert(1, "row", 0)
        self.check(table, (0, 0, 0, 0), A, C, [A, B, (1, 2), C], [(1, 3)])

    def test_m2_inserts_that_are_not_in_force_are_members(self):
        table = tables.Table(2, 1)
        table.insert(1, "row", 1)
        table.undo(1, 1)
        self.check(table, (0, 0, 0, 0), A, B, [A, (1, 1), B], [(0, 1)])
        table.undo(1, 2)
        self.check(table, (0, 0, 0, 0), A, B, [A, (1, 1), B], [(0, 2)])

    def test_m2_lines_beside_an_insert_that_is_not_in_force(self):
        table = tables.Table(2, 1)
        table.insert(1, "row", 1)
        table.meet(2, 1)
        table.insert(2, "row", 2)
        table.undo(1, 1)
        self.check(table, (0, 0, 0, 0), A, B, [A, (1, 1), (2, 1), B], [(0, 2)])

    def test_m2_a_line_that_is_no_member_makes_no_gap_if_it_is_not_live(self):
        table = tables.Table(4, 1)
        table.delete(2, "row", 2)
        table.insert(2, "row", 2)
        table.undo(2, 1)
        table.delete(2, "row", 2)
        self.check(table, (0, 0, 0, 0), A, C, [A, B, C], [(0, 2)])


class Random(unittest.TestCase):
    def test_m2_the_words_of_the_point(self):
        gaps = 0
        for start in range(120):
            chance = random.Random(start)
            table = tables.random_table(chance, 50, (4, 3))
            edits = table.edits()
            view = View(table.begin, edits, in_force_without(edits, chance.choice(((), (), (2,)))))
            for _ in range(12):
                axis = chance.choice(tables.AXES)
                seen = chance.choice([(0, 0, 0, 0)] + [edit[1] for edit in edits])
                known = [line for line in view.order(axis) if line[0] == 0 or seen[line[0] - 1] >= line[1]]
                if known:
                    gaps += self.compare(chance, view, seen, axis, known)
        self.assertGreater(gaps, 3)

    def compare(self, chance, view, seen, axis, known):
        at = chance.randrange(len(known))
        first, last = known[at], known[chance.randrange(at, len(known))]
        want = tables.members_by_words(view, seen, axis, first, last)
        self.assertEqual(members(view, seen, axis, first, last), want)
        found = segments(view, seen, axis, first, last)
        live = view.live(axis)
        covered = [index for start, end in found for index in range(start, end + 1)]
        self.assertEqual(covered, [live.index(line) for line in want if line in live])
        for (_, end), (start, _) in zip(found, found[1:]):
            self.assertGreater(start, end + 1)
        return len(found) > 1

    def test_basics_results_are_new(self):
        table = tables.Table(3, 3)
        view = table.view()
        members(view, (0, 0, 0, 0), "row", A, B).clear()
        segments(view, (0, 0, 0, 0), "row", A, B).clear()
        self.assertEqual(members(view, (0, 0, 0, 0), "row", A, B), [A, B])
        self.assertEqual(segments(view, (0, 0, 0, 0), "row", A, B), [(0, 1)])


if __name__ == "__main__":
    unittest.main()
