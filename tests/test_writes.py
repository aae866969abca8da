"""Writes and tellings of names that are shown: m5."""

import copy
import itertools
import random
import unittest

import tables
from tablemates.effects import in_force_without
from tablemates.view import View
from tablemates.writes import shown_names, shown_writes, words_told

A, B = (0, 1), (0, 2)
BLANK = ("blank",)


def text(letter):
    return ("text", letter)


def views(table, forced=None):
    """A view of the table's edits for each of several orders of its list."""
    edits = table.edits()
    forced = table.view().forced if forced is None else forced
    return [View(table.begin, list(listed), forced) for listed in itertools.islice(itertools.permutations(edits), 30)]


class Writes(unittest.TestCase):
    def check(self, table, want, row=A, column=A, forced=None):
        for view in views(table, forced):
            self.assertEqual(shown_writes(view, row, column), want)

    def test_m5_nothing_written(self):
        self.check(tables.Table(2, 2), [])

    def test_m5_one_write(self):
        table = tables.Table(2, 2)
        table.write(1, (0, 0), text("a"))
        self.check(table, [((1, 1), text("a"))])
        self.check(table, [], A, B)
        self.check(table, [], B, A)

    def test_m5_a_write_that_has_seen_the_other_one_covers_it(self):
        table = tables.Table(2, 2)
        table.write(1, (0, 0), text("a"))
        table.write(1, (0, 0), text("b"))
        self.check(table, [((1, 2), text("b"))])
        table.meet(2, 1)
        table.write(2, (0, 0), text("c"))
        self.check(table, [((2, 1), text("c"))])

    def test_m5_two_writes_that_have_not_seen_each_other(self):
        table = tables.Table(2, 2)
        table.write(2, (0, 0), text("b"))
        table.write(1, (0, 0), text("a"))
        self.check(table, [((1, 1), text("a")), ((2, 1), text("b"))])

    def test_m5_in_the_order_of_edits(self):
        table = tables.Table(2, 2)
        table.insert(1, "row", 2)
        table.write(1, (0, 0), text("a"))
        table.write(3, (0, 0), text("c"))
        table.write(2, (0, 0), text("b"))
        self.check(table, [((2, 1), text("b")), ((3, 1), text("c")), ((1, 2), text("a"))])

    def test_m5_the_same_content_twice(self):
        table = tables.Table(2, 2)
        table.write(1, (0, 0), text("a"))
        table.write(2, (0, 0), text("a"))
        self.check(table, [((1, 1), text("a")), ((2, 1), text("a"))])

    def test_m5_one_that_has_seen_both(self):
        table = tables.Table(2, 2)
        table.write(1, (0, 0), text("a"))
        table.write(2, (0, 0), text("b"))
        table.meet(3, 1, 2)
        table.write(3, (0, 0), text("c"))
        self.check(table, [((3, 1), text("c"))])

    def test_m5_one_that_has_seen_one_of_two(self):
        table = tables.Table(2, 2)
        table.write(1, (0, 0), text("a"))
        table.write(2, (0, 0), text("b"))
        table.meet(3, 2)
        table.write(3, (0, 0), text("c"))
        self.check(table, [((1, 1), text("a")), ((3, 1), text("c"))])

    def test_m5_a_write_that_is_undone_gives_what_it_covered(self):
        table = tables.Table(2, 2)
        table.write(1, (0, 0), text("a"))
        table.write(1, (0, 0), text("b"))
        table.undo(1, 2)
        self.check(table, [((1, 1), text("a"))])
        table.undo(1, 3)
        self.check(table, [((1, 2), text("b"))])

    def test_m5_an_undone_write_gives_both_that_it_covered(self):
        table = tables.Table(2, 2)
        table.write(1, (0, 0), text("a"))
        table.write(2, (0, 0), text("b"))
        table.meet(3, 1, 2)
        table.write(3, (0, 0), text("c"))
        table.undo(3, 1)
        self.check(table, [((1, 1), text("a")), ((2, 1), text("b"))])

    def test_m5_what_was_covered_is_undone(self):
        table = tables.Table(2, 2)
        table.write(1, (0, 0), text("a"))
        table.meet(2, 1)
        table.write(2, (0, 0), text("b"))
        table.undo(1, 1)
        self.check(table, [((2, 1), text("b"))])
        table.undo(2, 1)
        self.check(table, [])

    def test_m5_covered_over_one_that_is_undone(self):
        # The third one has seen the first one itself, so that stays covered whatever the second one does.
        table = tables.Table(2, 2)
        for person, letter in ((1, "a"), (2, "b"), (3, "c")):
            table.meet(person, 1, 2)
            table.write(person, (0, 0), text(letter))
        table.undo(2, 1)
        self.check(table, [((3, 1), text("c"))])

    def test_m5_a_write_of_several_cells_of_which_one_is_covered(self):
        table = tables.Table(2, 2)
        table.write(1, (0, 0), [text("a"), text("b")], [text("c"), text("d")])
        table.meet(2, 1)
        table.write(2, (0, 1), text("e"))
        self.check(table, [((1, 1), text("a"))], A, A)
        self.check(table, [((2, 1), text("e"))], A, B)
        self.check(table, [((1, 1), text("c"))], B, A)
        self.check(table, [((1, 1), text("d"))], B, B)
        table.write(3, (1, 1), text("f"))
        self.check(table, [((1, 1), text("d")), ((3, 1), text("f"))], B, B)

    def test_m5_a_blank_is_a_content(self):
        table = tables.Table(2, 2)
        table.write(1, (0, 0), text("a"))
        table.write(2, (0, 0), BLANK)
        self.check(table, [((1, 1), text("a")), ((2, 1), BLANK)])
        table.meet(1, 2)
        table.write(1, (0, 0), BLANK)
        self.check(table, [((1, 2), BLANK)])

    def test_m5_contents_are_kept_ones(self):
        table = tables.Table(2, 2)
        table.insert(1, "row", 0)
        table.write(1, (1, 0), ("formula", ("cell", 0, 1)))
        self.check(table, [((1, 2), ("formula", ("cell", (1, 1), B)))])

    def test_m5_a_cell_of_a_line_that_is_gone(self):
        table = tables.Table(2, 2)
        table.write(1, (0, 0), text("a"))
        table.delete(1, "row", 0)
        self.check(table, [((1, 1), text("a"))])

    def test_m5_other_edits_cover_nothing(self):
        table = tables.Table(2, 2)
        table.write(1, (0, 0), text("a"))
        table.name(1, "ab", (0, 0, 0, 0))
        table.insert(1, "row", 0)
        self.check(table, [((1, 1), text("a"))])

    def test_m5_only_what_counts_as_in_force(self):
        table = tables.Table(2, 2)
        table.write(1, (0, 0), text("a"))
        table.meet(2, 1)
        table.write(2, (0, 0), text("b"))
        self.check(table, [((1, 1), text("a"))], forced=[(1, 1)])
        self.check(table, [((2, 1), text("b"))], forced=[(2, 1)])
        self.check(table, [], forced=[])


class Names(unittest.TestCase):
    ONE = (A, A, A, A)
    ALL = (A, A, B, B)

    def check(self, table, want, words=("ab",), word="ab", forced=None):
        for view in views(table, forced):
            self.assertEqual(shown_names(view, word), want)
            self.assertEqual(words_told(view), list(words))

    def test_m5_nothing_told(self):
        self.check(tables.Table(2, 2), [], ())

    def test_m5_one_telling(self):
        table = tables.Table(2, 2)
        table.name(1, "ab", (0, 0, 0, 0), (0, 0, 1, 1))
        self.check(table, [((1, 1), (self.ONE, self.ALL))])
        self.check(table, [], word="abc")

    def test_m5_two_tellings_that_have_not_seen_each_other(self):
        table = tables.Table(2, 2)
        table.name(2, "ab", (0, 0, 1, 1))
        table.name(1, "ab", (0, 0, 0, 0))
        self.check(table, [((1, 1), (self.ONE,)), ((2, 1), (self.ALL,))])
        table.meet(3, 1, 2)
        table.name(3, "ab", (0, 0, 0, 0))
        self.check(table, [((3, 1), (self.ONE,))])

    def test_m5_a_telling_that_takes_the_name_away(self):
        table = tables.Table(2, 2)
        table.name(1, "ab", (0, 0, 0, 0))
        table.name(1, "ab")
        self.check(table, [((1, 2), ())])
        table.name(2, "ab", (0, 0, 1, 1))
        self.check(table, [((2, 1), (self.ALL,)), ((1, 2), ())])
        table.undo(1, 2)
        self.check(table, [((1, 1), (self.ONE,)), ((2, 1), (self.ALL,))])

    def test_m5_words_of_edits_that_are_not_in_force(self):
        table = tables.Table(2, 2)
        table.name(1, "total", (0, 0, 0, 0))
        table.name(1, "ab", (0, 0, 0, 0))
        table.undo(1, 2)
        self.check(table, [], ("total",))
        table.undo(1, 1)
        self.check(table, [], ())
        table.undo(1, 4)
        self.check(table, [], ("total",))

    def test_m5_words_are_sorted_and_each_stands_once(self):
        table = tables.Table(2, 2)
        for word in ("total", "ab", "abc", "total", "zz", "aaaaaaaa"):
            table.name(1, word, (0, 0, 0, 0))
        self.check(table, [((1, 2), (self.ONE,))], ("aaaaaaaa", "ab", "abc", "total", "zz"))

    def test_m5_words_do_not_cover_one_another(self):
        table = tables.Table(2, 2)
        table.name(1, "ab", (0, 0, 0, 0))
        table.name(1, "abc", (0, 0, 1, 1))
        self.check(table, [((1, 1), (self.ONE,))], ("ab", "abc"))
        self.check(table, [((1, 2), (self.ALL,))], ("ab", "abc"), "abc")

    def test_m5_only_what_counts_as_in_force(self):
        table = tables.Table(2, 2)
        table.name(1, "ab", (0, 0, 0, 0))
        table.meet(2, 1)
        table.name(2, "ab")
        self.check(table, [((1, 1), (self.ONE,))], forced=[(1, 1)])
        self.check(table, [], (), forced=[])


class Random(unittest.TestCase):
    def shown(self, view, told):
        """The words of m5, of tuples (edit, what it tells)."""
        standing = {edit[0]: (edit, part) for edit, part in told if edit[0] in view.forced}
        found = []
        for edit in tables.sorted_edits([edit for edit, _ in standing.values()]):
            others = [other for other, _ in standing.values() if other != edit]
            if not any(tables.sees(other, edit[0]) for other in others):
                found.append((edit[0], standing[edit[0]][1]))
        return found

    def test_m5_random_tables(self):
        for start in range(40):
            chance = random.Random(start)
            table = tables.random_table(chance, 45, (3, 2))
            edits = table.edits()
            forced = in_force_without(edits, chance.choice(((), (), (4,))))
            view = View(table.begin, tables.mixed(chance, edits), forced)
            for row, column in itertools.product(view.order("row"), view.order("column")):
                told = [(edit, cell[2]) for edit in edits if edit[2][0] == "write"
                        for cell in edit[2][1] if cell[:2] == (row, column)]
                self.assertEqual(shown_writes(view, row, column), self.shown(view, told))
            for word in tables.WORDS:
                told = [(edit, edit[2][2]) for edit in edits if edit[2][:2] == ("name", word)]
                self.assertEqual(shown_names(view, word), self.shown(view, told))
            words = {edit[2][1] for edit in edits if edit[2][0] == "name" and edit[0] in forced}
            self.assertEqual(words_told(view), sorted(words))

    def test_basics_results_are_new_and_the_view_stays_as_it_is(self):
        table = tables.random_table(random.Random(5), 45, (2, 2))
        view = table.view()
        before = copy.deepcopy(vars(view))
        for function, arguments in ((shown_writes, (A, A)), (shown_names, ("ab",)), (words_told, ())):
            found = function(view, *arguments)
            self.assertNotEqual(found, [])
            found.clear()
            self.assertNotEqual(function(view, *arguments), [])
        self.assertEqual(vars(view), before)


if __name__ == "__main__":
    unittest.main()
