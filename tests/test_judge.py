"""The judge: p3, p4."""

import copy
import random
import unittest

import papers
import second
from deeds import content_of
from second import grid
from tablemates.errors import WrongPaper
from tablemates.grids import Grid, same
from tablemates.judge import grid_of, judge
from tablemates.paper import paper_of

TWO = (0, 0, ("2",), "2")
TRIPLE = (0, 1, ("=A1 * 3",), "6")


class Judged(unittest.TestCase):
    def check(self, paper, want):
        before = copy.deepcopy(paper)
        self.assertEqual(judge(paper), want)
        self.assertEqual(paper, before)
        if want is None:
            self.assertEqual(sorted(entry[:2] for entry in paper[4]), grid_of(paper).cells())
        else:
            with self.assertRaises(WrongPaper) as caught:
                grid_of(paper)
            self.assertEqual(vars(caught.exception), {"at": want[1]})
        self.assertEqual(paper, before)

    def entries(self, entries, want, rings=()):
        self.check((3, 3, [], list(rings), entries), want)

    def one(self, texts, value, want):
        self.entries([(0, 0, texts, value)], want)


class Parts(Judged):
    def test_p3_sizes(self):
        for rows, columns, want in (
                (0, 0, None), (99, 99, None), (0, 99, None), (100, 0, (0, 0)), (0, 100, (0, 0)), (-1, 5, (0, 0)),
                (5, -1, (0, 0)), (10 ** 9, 2, (0, 0)), (None, 2, (0, 0)), ("1", 2, (0, 0)), (2, (), (0, 0))):
            self.check((rows, columns, [], [], []), want)

    def test_p3_sizes_come_ahead_of_all(self):
        self.check((100, 1, [("sum", ())], [[]], [(9, 9, (), "")]), (0, 0))

    def names(self, names, want):
        self.check((2, 3, names, [], []), want)

    def test_p3_name_words(self):
        for word in ("ab", "abcdefgh", "zz"):
            self.names([(word, None)], None)
        for word in ("", "a", "abcdefghi", "sum", "gone", "Ab", "a1", 7, None, ("ab",)):
            self.names([(word, None)], (1, 0))
            self.names([("aa", None), (word, None)], (1, 1))

    def test_p3_names_stand_in_the_order_of_strings(self):
        self.names([("ab", None), ("abc", None), ("b" * 8, None), ("ba", None)][:3], None)
        self.names([("ab", None), ("ab", None)], (1, 1))
        self.names([("ab", None), ("ac", None), ("abc", None)], (1, 2))

    def test_p3_areas(self):
        gone = ("gone",)
        for areas in (None, (gone,), (("block", 0, 0, 1, 2),), (("block", 1, 2, 1, 2), gone, gone)):
            self.names([("ab", areas)], None)
        for area in (
                ("block", 0, 0, 2, 0), ("block", 0, 0, 0, 3), ("block", 1, 0, 0, 0), ("block", 0, 1, 0, 0),
                ("block", -1, 0, 0, 0), ("block", 0, -1, 0, 0), ("name", "cd"), ("gone", 1), ("block", 0, 0, 0),
                ("block", 0, 0, 0, 0, 0), (), ("block", 0, 0, None, 0), ("block", None, 0, 0, 0), ("area", 0, 0, 0, 0), ("cell", 0, 0), None, 3, "gone", ["gone"]):
            self.names([("ab", (area,))], (1, 0))
            self.names([("aa", None), ("ab", (gone, area))], (1, 1))
        for areas in ((), [], [gone], "gone", 4):
            self.names([("ab", areas)], (1, 0))

    def test_p3_names_come_ahead_of_entries(self):
        self.check((2, 2, [("ab", ())], [[]], [(9, 9, (), "")]), (1, 0))

    def test_p3_what_should_be_a_name_an_entry_or_a_ring(self):
        self.names([()], (1, 0))
        self.names([("ab",)], (1, 0))
        self.names([("ab", None, None)], (1, 0))
        self.names([["ab", None]], (1, 0))
        self.entries([[0, 0, ("2",), "2"]], (3, 0))
        self.entries([()], (3, 0))
        self.entries([TWO, (1, 1)], (3, 1))
        self.entries([(None, 0, ("2",), "2")], (3, 0))
        self.entries([(0, 0, None, "2")], (3, 0))
        self.entries([(0, 0, ["2"], "2")], (3, 0))
        self.entries([(0, 0, (2,), "2")], (3, 0))
        self.entries([(0, 0, ("2",), None)], (3, 0))
        for ring in ([()], [(0,)], [(0, 0, 0)], [None], [([], 0)], ((0, 0),), None, [[0, 0]]):
            self.entries([TWO], (2, 0), [ring])


class Entries(Judged):
    def test_p3_cells(self):
        self.entries([TWO, TRIPLE, (2, 2, ("a",), "'a")], None)
        for cell in ((-1, 0), (0, -1), (3, 0), (0, 3), (99, 99)):
            self.entries([TWO, cell + (("2",), "2")], (3, 1))
        self.entries([TWO, TRIPLE, TWO], (3, 2))
        self.entries([TWO, (0, 0, ("3",), "3")], (3, 1))

    def test_p3_texts(self):
        self.one((), "0", (3, 0))
        self.one((), "", (3, 0))
        self.one(("",), "0", (3, 0))
        self.one(("",), "'", (3, 0))
        self.one(("", ""), "!clash", None)
        self.one(("", "a"), "!clash", None)
        self.one(("a", "=A1", "3"), "!clash", None)
        self.one(("a", "=A1 +", "3"), "!clash", (3, 0))
        for text, value in (("=A4", "0"), ("=x", "0"), ("=sum()", "0"), ("=1+1", "2"), ("=(A2)", "0"), ("= A2", "0"),
                            ("=B2:A1", "0"), ("=sum(B2:A1)", "0"), ("07", "7"), ("0.50", "1/2"), ("-0", "0"),
                            ("=" + " + ".join(["1"] * 16), "16"), ("=sum(B2:B2)", "0")):
            self.one((text,), value, (3, 0))
        for text, value in (("7", "7"), ("0.5", "1/2"), ("-0.5", "-1/2"), (" 07", "' 07"), ("=1 + 1", "2"),
                            ("=" + " + ".join(["1"] * 15), "15"), ("=gone", "!gone"), ("=sum(ab)", "!unknown"),
                            ("=1 / 0", "!zero"), ("=min(B2:C3)", "!none"), ("=sum(B2)", "0")):
            self.one((text,), value, None)

    def test_p3_values(self):
        for value in ("3", "'2", "2/1", "4/2", "02", "2 ", "", "!ring", "2.0", "9" * 5000):
            self.entries([(0, 0, ("2",), value)], (3, 0))
        for value in ("a", "'b", "!kind", "''a"):
            self.entries([(0, 0, ("a",), value)], (3, 0))
        self.one(("1", "2"), "1", (3, 0))
        self.one(("1", "2"), "!clash", None)

    def test_p3_what_is_read_must_come_before(self):
        self.entries([TWO, TRIPLE], None)
        self.entries([TRIPLE, TWO], (3, 0))
        self.entries([TRIPLE], (3, 0))
        self.entries([(0, 1, ("=A1 * 3",), "0")], None)
        self.entries([(0, 1, ("=A1 * 3",), "0"), TWO], (3, 0))
        self.entries([(0, 1, ("=A1 * 3",), "6"), (1, 1, ("1",), "1"), TWO], (3, 0))

    def test_p3_what_is_read_by_blocks_and_names(self):
        names = [("ab", (("block", 0, 0, 1, 0),)), ("cd", None)]
        total = (2, 2, ("=sum(ab)",), "5")
        parts = [TWO, (1, 0, ("3",), "3")]
        self.check((3, 3, names, [], parts + [total]), None)
        self.check((3, 3, names, [], parts[:1] + [total] + parts[1:]), (3, 1))
        self.check((3, 3, [], [], parts + [total]), (3, 2))
        self.check((3, 3, [], [], [(2, 2, ("=sum(ab)",), "!unknown")] + parts), None)
        self.check((3, 3, names, [], [(2, 2, ("=sum(cd)",), "!clash")] + parts), None)

    def test_p3_a_cell_with_several_contents_reads_nothing(self):
        self.entries([(0, 1, ("=A1 * 3", ""), "!clash"), TWO], None)

    def test_p3_a_fault_that_is_passed_on(self):
        ring = (1, 1, ("=B2",), "!ring")
        self.entries([ring, (0, 0, ("=B2 + 1",), "!ring")], None, [[(1, 1)]])
        self.entries([ring, (0, 0, ("=B2 + 1",), "1")], (3, 1), [[(1, 1)]])
        self.entries([(0, 0, ("=B2 + 1",), "!ring"), ring], (3, 0), [[(1, 1)]])
        self.entries([(0, 0, ("=B2 + 1",), "!ring")], (3, 0))


class Rings(Judged):
    A = (0, 0, ("=B1",), "!ring")
    B = (0, 1, ("=A1",), "!ring")
    C = (0, 2, ("=C1",), "!ring")
    AB = [(0, 0), (0, 1)]

    def test_p3_right_rings(self):
        self.entries([self.A, self.B], None, [self.AB])
        self.entries([self.B, self.A], None, [self.AB])
        self.entries([self.A, self.B], None, [self.AB[::-1]])
        self.entries([self.A, self.B], None, [self.AB, self.AB[::-1]])
        self.entries([self.C, self.A, self.B], None, [self.AB, [(0, 2)]])

    def test_p3_a_ring_that_is_left_out(self):
        self.entries([self.A, self.B], (3, 0))
        self.entries([self.C], (3, 0))
        self.entries([self.A, self.B, self.C], (3, 2), [self.AB])

    def test_p3_wrong_rings(self):
        entries = [self.A, self.B, self.C]
        rings = [self.AB, [(0, 2)]]
        self.entries(entries, (2, 2), rings + [[]])
        self.entries(entries, (2, 0), [[]] + rings)
        self.entries(entries, (2, 1), [self.AB, [(0, 2), (0, 2)]])
        self.entries(entries, (2, 0), [self.AB * 2, [(0, 2)]])
        self.entries(entries, (2, 2), rings + [[(0, 0)]])
        self.entries(entries, (2, 2), rings + [[(0, 0), (0, 1), (0, 2)]])
        self.entries(entries, (2, 2), rings + [[(2, 2)]])
        self.entries(entries, (2, 2), rings + [[(0, 0), (2, 2)]])

    def test_p3_entries_come_ahead_of_rings(self):
        self.entries([self.A, self.B, (1, 1, ("1",), "2")], (3, 2), [[], self.AB])
        self.entries([self.A, self.B], (2, 0), [[], self.AB])

    def test_p3_a_cell_that_stands_in_a_ring_has_the_value_ring(self):
        self.entries([(0, 0, ("2",), "2")], (3, 0), [[(0, 0)]])
        self.entries([(0, 0, ("2",), "!ring")], (2, 0), [[(0, 0)]])
        self.entries([(0, 0, ("=B1",), "0")], (3, 0), [[(0, 0)]])
        self.entries([(0, 0, ("=B1",), "!ring")], (2, 0), [[(0, 0)]])
        self.entries([(0, 0, ("1", "2"), "!ring")], (2, 0), [[(0, 0)]])

    def test_p3_in_the_same_run(self):
        one = (2, 0, ("1",), "1")
        self.entries([one, self.A, self.B], None, [self.AB])
        self.entries([self.A, one, self.B], (3, 0), [self.AB])
        # C stands in a ring too: the run goes past it.
        self.entries([self.A, self.C, self.B], None, [self.AB, [(0, 2)]])
        # A cell of a ring may read what comes later only in its own run.
        self.entries([(0, 0, ("=B1 + A3",), "!ring"), self.B, one], (3, 0), [self.AB])
        self.entries([(0, 0, ("=B1 + C1",), "!ring"), self.B, self.C], None, [self.AB, [(0, 2)]])
        self.entries([(0, 0, ("=B1 + C1",), "!ring"), self.B, one, self.C], (3, 0), [self.AB, [(0, 2)]])

    def test_p3_what_tells_no_cell_stands_in_no_run(self):
        self.entries([self.A, (), self.B], (3, 0), [self.AB, [()]])
        self.entries([self.A, (9, None, ("1",), "1"), self.B], (3, 0), [self.AB, [(9, None)]])
        self.entries([self.A, (9, 9, ("1",), "1"), self.B], (3, 1), [self.AB, [(9, 9)]])

    def test_p3_a_cell_of_no_ring_does_not_read_in_its_run(self):
        # D is read by A and reads B, but stands in no ring of the paper.
        d = (1, 0, ("=B1",), "!ring")
        a = (0, 0, ("=B1 + A2",), "!ring")
        self.entries([a, self.B, d], (3, 0), [self.AB])
        self.entries([self.B, d, a], (3, 0), [self.AB])
        self.entries([a, self.B, d], None, [self.AB, [(0, 0), (1, 0), (0, 1)]])

    def test_p4_a_row_that_is_not_the_shortest_one(self):
        entries = [(0, 0, ("=A1 + B1",), "!ring"), self.B]
        self.entries(entries, None, [self.AB])
        self.entries(entries, None, [[(0, 0)], self.AB])
        self.entries(entries, (3, 0), [[(0, 0)]])
        self.entries(entries[::-1], (3, 0), [[(0, 0)]])


class SecondWay(Judged):
    def test_p3_the_judge_accepts_the_paper_of_a_grid_and_leads_back_to_it(self):
        for seed in range(400):
            some_grid = papers.random_grid(random.Random(seed))
            paper = paper_of(some_grid)
            self.check(paper, None)
            self.assertTrue(same(grid_of(paper), some_grid))
            self.assertTrue(papers.is_right(paper))

    def test_p4_grids_whose_contents_are_not_read_again(self):
        long = ("formula", ("call", "sum", (("block", 0, 0, 1, 1),) * 8))
        some_grid = Grid(2, 3)
        some_grid.put((0, 2), [long])
        self.check(paper_of(some_grid), (3, 0))
        some_grid.put((0, 0), [("number", (1, 1))])
        self.check(paper_of(some_grid), (3, 1))

    def test_p3_changed_papers(self):
        told = {}
        for seed in range(3000):
            chance = random.Random(seed)
            paper = paper_of(papers.random_grid(chance))
            for _ in range(chance.randint(1, 2)):
                paper = papers.changed(chance, paper)
            want = papers.judge_by_words(paper)
            self.check(paper, want)
            part = None if want is None else want[0]
            told[part] = told.get(part, 0) + 1
            if part != 0:
                self.assertEqual(want is None, is_right_or_not(paper), seed)
            if want is None:
                self.assertTrue(papers.is_right(paper_of(grid_of(paper))))
        self.assertGreater(min(told[part] for part in (None, 0, 1, 2, 3)), 50)

    def test_p4_two_right_papers_of_one_grid(self):
        found = 0
        for seed in range(600):
            chance = random.Random(seed)
            some_grid = papers.random_grid(chance)
            paper = paper_of(some_grid)
            entries = chance.sample(paper[4], len(paper[4]))
            rings = [ring[1:] + ring[:1] for ring in chance.sample(paper[3], len(paper[3]))]
            other = paper[:3] + (rings, entries)
            want = papers.judge_by_words(other)
            self.check(other, want)
            if want is None:
                found += 1
                self.assertTrue(same(grid_of(other), some_grid))
        self.assertGreater(found, 100)

    def test_p4_the_grid_is_new_each_time(self):
        some_grid = grid(2, 2, {"A1": "1"}, {"ab": [("gone",)]})
        paper = paper_of(some_grid)
        grid_of(paper).put((0, 0), [])
        found = grid_of(paper)
        self.assertEqual(content_of(found), content_of(some_grid))
        self.assertEqual(second.values(found), {(0, 0): ("number", (1, 1))})


def is_right_or_not(paper):
    """Whether a paper with sizes that may be is right by the words of p4, its names being so."""
    names = [word for word, _ in paper[2]]
    if names != sorted(set(names)) or not all(papers.is_name_word(word) for word in names):
        return False
    areas = [area for _, told in paper[2] for area in told or ()]
    if () in [told for _, told in paper[2]]:
        return False
    if not all(papers.is_area(area, paper[0], paper[1]) for area in areas):
        return False
    return papers.is_right(paper)


if __name__ == "__main__":
    unittest.main()
