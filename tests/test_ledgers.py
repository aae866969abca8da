"""Ledgers, and what they count: v8."""

import copy
import random
import unittest

import second
import tables
from second import at, fault, number
from tablemates.grids import Grid, same
from tablemates.ledgers import Ledger
from tablemates.rings import values_of

BLANK = ("blank",)
CHAIN = {"A1": "1", "B1": "=A1 + 1", "C1": "=B1 * 2", "D1": "=C1 - B1", "A4": "=D4", "B4": "7"}


def addresses(text):
    return [at(address) for address in text.split()]


class Followed:
    """A ledger beside a grid of its own, on which the same changes are made."""

    def __init__(self, test, grid):
        self.test = test
        self.grid = grid.copy()
        self.ledger = Ledger(grid)
        self.compare()

    def compare(self):
        values = values_of(self.grid)
        self.test.assertEqual(values, second.values(self.grid))
        self.test.assertEqual(self.ledger.all_values(), values)
        for cell in second.cells_in((0, 0, self.grid.rows - 1, self.grid.columns - 1)):
            self.test.assertEqual(self.ledger.value(cell), values.get(cell, BLANK))

    def naming(self, word):
        """The cells with a formula in which the name stands."""
        found = []
        for cell in self.grid.cells():
            shown = self.grid.shown(cell)
            if len(shown) == 1 and shown[0][0] == "formula" and ("name", word) in second.parts_of(shown[0][1]):
                found.append(cell)
        return found

    def change(self, allowed, method, *arguments):
        """Makes a change, and checks what is counted by the words of v8; `allowed` are the changed cells."""
        old = values_of(self.grid)
        old_rings = [cell for cell in self.grid.cells() if second.ring(self.grid, cell)]
        getattr(self.grid, method)(*arguments)
        self.test.assertIsNone(getattr(self.ledger, method)(*arguments))
        self.compare()
        new = values_of(self.grid)
        rings = [cell for cell in self.grid.cells() if second.ring(self.grid, cell)]
        moved = [cell for cell in set(old) | set(new) if old.get(cell) != new.get(cell)]
        allowed = set(allowed) | set(old_rings) | set(rings)
        allowed |= {cell for cell in self.grid.cells() if set(second.reads(self.grid, cell)) & set(moved)}
        counted = self.ledger.counted()
        formulas = [cell for cell in self.grid.cells() if [one[0] for one in self.grid.shown(cell)] == ["formula"]]
        self.test.assertEqual(counted, sorted(set(counted)))
        self.test.assertLessEqual(set(counted), allowed & set(formulas))
        # Nothing but an evaluation gives a formula outside of rings another value.
        needed = {cell for cell in moved if cell in formulas and cell not in rings}
        self.test.assertLessEqual(needed, set(counted))

    def put(self, address, *texts):
        shown = second.contents(list(texts), self.grid.rows, self.grid.columns)
        self.change([at(address)], "put", at(address), shown)

    def name(self, word, areas):
        self.change(self.naming(word), "name", word, areas)

    def unname(self, word):
        self.change(self.naming(word), "unname", word)


class Ledgers(unittest.TestCase):
    def followed(self, texts, names=None, rows=4, columns=4):
        return Followed(self, second.grid(rows, columns, texts, names))

    def counts(self, followed, text):
        self.assertEqual(followed.ledger.counted(), addresses(text))


class Values(Ledgers):
    def test_v8_before_the_first_change(self):
        for texts in ({}, CHAIN, {"A1": "=A1"}):
            self.counts(self.followed(texts), "")

    def test_v8_a_blank_cell(self):
        ledger = Ledger(Grid(2, 2))
        self.assertEqual(ledger.value((1, 1)), BLANK)
        self.assertEqual(ledger.all_values(), {})
        ledger.put((1, 1), [number(1)])
        self.assertEqual(ledger.value((1, 1)), number(1))
        ledger.put((1, 1), [BLANK])
        self.assertEqual(ledger.value((1, 1)), BLANK)
        self.assertEqual(ledger.all_values(), {})

    def test_v8_a_change_of_a_cell_that_nothing_reads(self):
        followed = self.followed(CHAIN)
        followed.put("B4", "8")
        self.counts(followed, "")
        followed.put("B4", "=A1 * 5")
        self.counts(followed, "B4")
        followed.put("D1", "=C1 + 1")
        self.counts(followed, "D1")

    def test_v8_a_change_in_the_middle_of_a_chain(self):
        followed = self.followed(CHAIN)
        followed.put("B1", "=A1 + 2")
        self.counts(followed, "B1 C1 D1")
        self.assertEqual(followed.ledger.value(at("D1")), number(3))
        followed.put("B1", "10")
        self.counts(followed, "C1 D1")

    def test_v8_a_change_at_the_beginning_of_a_chain(self):
        followed = self.followed(CHAIN)
        followed.put("A1", "5")
        self.counts(followed, "B1 C1 D1")
        followed.put("A1", "a text")
        self.counts(followed, "B1 C1 D1")
        followed.put("A1", "")
        self.counts(followed, "B1 C1 D1")

    def test_v8_a_value_that_stays_ends_the_chain(self):
        followed = self.followed({"A1": "1", "B1": "=A1 * 0", "C1": "=B1 + 1", "D1": "=C1"})
        followed.put("A1", "2")
        self.counts(followed, "B1")
        followed.put("A1", "a")
        self.counts(followed, "B1 C1 D1")
        followed.put("A1", "b")
        self.counts(followed, "B1")

    def test_v8_each_cell_at_most_once(self):
        followed = self.followed({"A1": "1", "B1": "=A1", "C1": "=A1 + B1", "D1": "=A1 + B1 + C1", "A2": "=D1 - A1"})
        followed.put("A1", "2")
        self.counts(followed, "B1 C1 D1 A2")

    def test_v8_cells_above_and_left_of_what_they_read(self):
        followed = self.followed({"D4": "1", "C4": "=D4", "B2": "=C4", "A1": "=B2 + C4"})
        followed.put("D4", "2")
        self.counts(followed, "A1 B2 C4")

    def test_v8_a_change_that_puts_what_already_stands_there(self):
        followed = self.followed(CHAIN)
        for text in ("=A1 + 1", "=A1+1"):
            followed.put("B1", text)
            self.counts(followed, "")
        followed.put("A2", "")
        self.counts(followed, "")
        followed.put("A1", "1")
        self.counts(followed, "")

    def test_v8_another_formula_with_the_same_value(self):
        followed = self.followed(CHAIN)
        followed.put("B1", "=2 * A1")
        self.counts(followed, "B1")

    def test_v8_clashes(self):
        followed = self.followed(CHAIN)
        followed.put("B1", "=A1", "2")
        self.counts(followed, "C1 D1")
        followed.put("B1", "2", "=A1", "")
        self.counts(followed, "")
        followed.put("B1", "=A1")
        self.counts(followed, "B1 C1 D1")

    def test_v8_areas(self):
        followed = self.followed({"D4": "=sum(A1:C3)", "D3": "=count(A1:A3)"})
        followed.put("B2", "5")
        self.counts(followed, "D4")
        followed.put("A2", "a")
        self.counts(followed, "D3 D4")
        followed.put("A2", "b")
        self.counts(followed, "D3 D4")
        followed.put("D2", "1")
        self.counts(followed, "")


class Rings(Ledgers):
    def test_v8_a_change_that_makes_a_ring_and_one_that_breaks_it(self):
        followed = self.followed(CHAIN)
        followed.put("A1", "=D1")
        self.assertEqual(followed.ledger.value(at("C1")), fault("ring"))
        followed.put("A1", "3")
        self.counts(followed, "B1 C1 D1")
        self.assertEqual(followed.ledger.value(at("D1")), number(4))

    def test_v8_cells_that_read_a_ring(self):
        followed = self.followed({"A1": "=B1", "B1": "2", "C1": "=A1 + 1", "D1": "=C1", "D2": "=count(D1)"})
        followed.put("B1", "=A1")
        self.counts(followed, "C1 D1 D2")
        followed.put("B1", "=B1")
        self.assertLessEqual(set(followed.ledger.counted()), set(addresses("A1 B1")))
        self.assertEqual(followed.ledger.value(at("D2")), fault("ring"))
        followed.put("B1", "4")
        self.counts(followed, "A1 C1 D1 D2")

    def test_v8_a_ring_of_one_cell(self):
        followed = self.followed({"A1": "1", "B1": "=A1"})
        followed.put("A1", "=A1")
        self.counts(followed, "B1")
        followed.put("A1", "=A1 + 1")
        self.counts(followed, "")
        followed.put("A1", "=2")
        self.counts(followed, "A1 B1")

    def test_v8_a_ring_of_which_a_part_stays(self):
        followed = self.followed({"A1": "=B1 + C1", "B1": "=A1", "C1": "=A1", "D1": "=C1 + 1"})
        followed.put("C1", "=B1")
        self.assertEqual(followed.ledger.value(at("D1")), fault("ring"))
        followed.put("A1", "=B1")
        self.assertEqual(followed.ledger.value(at("C1")), fault("ring"))
        followed.put("B1", "1")
        self.counts(followed, "A1 C1 D1")

    def test_v8_a_cell_leaves_a_ring_and_still_has_this_fault(self):
        followed = self.followed({"A1": "=B1", "B1": "=A1 + B1", "C1": "=A1"})
        followed.put("B1", "=B1")
        self.assertEqual(followed.ledger.value(at("C1")), fault("ring"))
        self.assertNotIn(at("C1"), followed.ledger.counted())

    def test_v8_a_ring_that_a_clash_breaks(self):
        followed = self.followed({"A1": "=B1", "B1": "=A1"})
        followed.put("B1", "=A1", "=A1")
        self.counts(followed, "A1")
        followed.put("B1", "=A1")
        self.counts(followed, "")


class Names(Ledgers):
    TEXTS = {"A1": "1", "A2": "2", "B1": "=sum(ab)", "C1": "=B1 * 2", "D1": "=count(total)", "D2": "=max(ab, A1)"}
    ONE = [("block", 0, 0, 0, 0)]
    BOTH = [("block", 0, 0, 1, 0)]

    def test_v8_told_changed_and_taken_away(self):
        followed = self.followed(self.TEXTS)
        followed.name("ab", self.ONE)
        self.counts(followed, "B1 C1 D2")
        followed.name("ab", self.BOTH)
        self.counts(followed, "B1 C1 D2")
        followed.name("ab", None)
        self.assertEqual(followed.ledger.value(at("C1")), fault("clash"))
        followed.unname("ab")
        self.assertEqual(followed.ledger.value(at("C1")), fault("unknown"))
        self.counts(followed, "B1 C1 D2")

    def test_v8_other_names_do_not_count(self):
        followed = self.followed(self.TEXTS)
        followed.name("total", self.BOTH)
        self.counts(followed, "D1")
        followed.name("never", self.BOTH)
        self.counts(followed, "")
        followed.unname("never")
        self.counts(followed, "")

    def test_v8_a_name_told_as_it_is(self):
        followed = self.followed(self.TEXTS, {"ab": self.ONE, "total": None})
        followed.name("ab", self.ONE)
        self.counts(followed, "")
        followed.name("total", None)
        self.counts(followed, "")
        followed.unname("abc")
        self.counts(followed, "")

    def test_v8_a_name_that_gives_the_same_value(self):
        followed = self.followed(self.TEXTS, {"ab": self.ONE})
        followed.name("ab", self.ONE + [("block", 2, 2, 3, 3)])
        self.counts(followed, "B1 D2")

    def test_v8_cells_read_through_a_name(self):
        followed = self.followed(self.TEXTS, {"ab": self.ONE})
        followed.put("A1", "5")
        self.counts(followed, "B1 C1 D2")
        followed.put("A2", "5")
        self.counts(followed, "")
        followed.name("ab", self.BOTH)
        followed.put("A2", "6")
        self.counts(followed, "B1 C1 D2")

    def test_v8_a_name_that_makes_a_ring(self):
        followed = self.followed(self.TEXTS, {"ab": self.ONE})
        followed.name("ab", [("block", 0, 0, 0, 2)])
        self.assertEqual(followed.ledger.value(at("B1")), fault("ring"))
        self.counts(followed, "D2")
        followed.name("ab", self.ONE)
        self.counts(followed, "B1 C1 D2")

    def test_v8_a_name_in_a_clash_is_no_formula_in_which_it_stands(self):
        followed = self.followed({"A1": ["=sum(ab)", "=sum(ab)"], "B1": "sum(ab)"})
        followed.name("ab", self.BOTH)
        self.counts(followed, "")


class Apart(Ledgers):
    def test_basics_the_grid_that_was_handed_in_is_changed_afterwards(self):
        grid = second.grid(4, 4, CHAIN, {"ab": None})
        before = grid.copy()
        ledger = Ledger(grid)
        grid.put(at("A1"), [number(50)])
        grid.name("ab", [("gone",)])
        self.assertEqual(ledger.all_values(), values_of(before))
        ledger.put(at("A4"), [("formula", ("cell", 0, 0))])
        self.assertEqual(ledger.value(at("A4")), number(1))

    def test_basics_the_grid_stays_as_it_is_when_the_ledger_is_changed(self):
        grid = second.grid(4, 4, CHAIN)
        before = grid.copy()
        ledger = Ledger(grid)
        ledger.put(at("A1"), [number(50)])
        ledger.name("ab", [("gone",)])
        self.assertTrue(same(grid, before))

    def test_basics_lists_that_were_handed_in_or_out(self):
        ledger = Ledger(second.grid(4, 4, CHAIN))
        shown = [number(4)]
        areas = [("block", 0, 0, 0, 0)]
        ledger.put(at("A1"), shown)
        ledger.name("ab", areas)
        ledger.put(at("D3"), [("formula", ("call", "sum", (("name", "ab"),)))])
        before = copy.deepcopy((ledger.all_values(), ledger.counted()))
        shown.append(number(5))
        areas.clear()
        ledger.all_values().clear()
        ledger.counted().append(at("A1"))
        self.assertEqual((ledger.all_values(), ledger.counted()), before)
        ledger.put(at("D4"), [number(1)])
        self.assertEqual(ledger.value(at("A1")), number(4))
        self.assertEqual(ledger.value(at("D3")), number(4))


class Random(Ledgers):
    def test_v8_random_changes(self):
        for start in range(60):
            chance = random.Random(start)
            rows, columns = chance.choice(((3, 3), (2, 4), (4, 2)))
            followed = Followed(self, second.random_grid(chance, rows, columns, 5))
            for _ in range(30):
                kind = chance.randrange(5)
                if kind < 3:
                    cell = (chance.randrange(rows), chance.randrange(columns))
                    followed.change([cell], "put", cell, second.random_shown(chance, rows, columns, 1))
                elif kind == 3:
                    followed.name(chance.choice(tables.WORDS), second.random_areas(chance, rows, columns))
                else:
                    followed.unname(chance.choice(tables.WORDS))


if __name__ == "__main__":
    unittest.main()
