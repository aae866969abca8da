"""How trees are evaluated, and the value of a cell: v2, v4 and v5."""

import copy
import random
import unittest

import second
import tables
from second import at, fault, number
from tablemates.evaluation import evaluate, value_from
from tablemates.grammar import read_formula
from tablemates.grids import Grid

LIMIT = 10 ** 18
TEXT = ("text", "abc")
NAMES = {"ab": [("block", 0, 0, 0, 1)], "two": [("block", 1, 1, 1, 1), ("block", 0, 0, 0, 0)],
         "lost": [("block", 0, 0, 0, 0), ("gone",), ("block", 1, 0, 1, 0)], "clash": None, "none": [("gone",)]}


class Trees(unittest.TestCase):
    def check(self, text, want, **known):
        grid = second.grid(4, 4, {}, NAMES)
        values = {at(address): value for address, value in known.items()}
        before = copy.deepcopy(values)
        self.assertEqual(evaluate(grid, read_formula(text, 4, 4), values), want)
        self.assertEqual(values, before)


class Plain(Trees):
    def test_v4_numbers(self):
        self.check("12", number(12))
        self.check("0.50", number(1, 2))
        self.check("0", number(0))

    def test_v4_gone(self):
        self.check("gone", fault("gone"))
        self.check("-gone", fault("gone"))
        self.check("1 + gone", fault("gone"))
        self.check("gone * 1", fault("gone"))

    def test_v4_a_single_cell(self):
        self.check("A1", number(3, 2), A1=number(3, 2))
        self.check("A1", TEXT, A1=TEXT)
        self.check("A1", ("text", "12"), A1=("text", "12"))
        self.check("A1", number(0))
        self.check("A1", number(0), A1=("blank",), B1=number(7))

    def test_v4_a_single_cell_that_is_a_fault(self):
        for word in ("clash", "ring", "gone", "unknown", "kind", "zero", "range", "none"):
            self.check("A1", fault(word), A1=fault(word))

    def test_v4_a_single_cell_in_brackets(self):
        self.check("(A1)", TEXT, A1=TEXT)
        self.check("((B2))", number(0))

    def test_v4_a_cell_anywhere_else(self):
        self.check("-A1", number(-2), A1=number(2))
        self.check("-A1", number(0))
        self.check("-A1", fault("kind"), A1=TEXT)
        self.check("-A1", fault("ring"), A1=fault("ring"))
        self.check("A1 + 0", fault("kind"), A1=TEXT)
        self.check("0 + A1", fault("kind"), A1=TEXT)
        self.check("A1 + B1", number(0))
        self.check("A1 * B1", number(0), A1=("blank",), B1=number(3))

    def test_v4_a_text_of_digits_is_no_number(self):
        self.check("A1 + 1", fault("kind"), A1=("text", "12"))


class Operators(Trees):
    def test_v4_results_are_exact(self):
        self.check("1 + 2", number(3))
        self.check("1 - 2", number(-1))
        self.check("2.5 * 4", number(10))
        self.check("1 / 3", number(1, 3))
        self.check("1 / 3 + 1 / 6", number(1, 2))
        self.check("(1 / 3) * 3", number(1))
        self.check("-7 / -2", number(7, 2))
        self.check("0.1 + 0.2 - 0.3", number(0))

    def test_v4_operators_bind_as_they_are_read(self):
        self.check("10 - 4 - 3", number(3))
        self.check("8 / 4 / 2", number(1))
        self.check("2 + 3 * 4", number(14))
        self.check("-2 * 3", number(-6))

    def test_v4_negative_zero_and_whole_results(self):
        self.check("-0", number(0))
        self.check("0 * -3", number(0))
        self.check("0 / -3", number(0))
        self.check("-(1 - 1)", number(0))
        self.check("6 / -3", number(-2))

    def test_v4_a_fault_of_the_left_one_goes_first(self):
        for sign in "+-*/":
            self.check("A1 %s B1" % sign, fault("ring"), A1=fault("ring"), B1=fault("clash"))
            self.check("A1 %s B1" % sign, fault("kind"), A1=TEXT, B1=fault("clash"))
            self.check("A1 %s B1" % sign, fault("clash"), A1=fault("clash"), B1=TEXT)
            self.check("A1 %s B1" % sign, fault("clash"), A1=number(1), B1=fault("clash"))
            self.check("A1 %s B1" % sign, fault("kind"), A1=number(1), B1=TEXT)
            self.check("A1 %s B1" % sign, fault("zero"), A1=fault("zero"))

    def test_v4_faults_within_go_the_same_way(self):
        self.check("(1 / 0) + gone", fault("zero"))
        self.check("gone + 1 / 0", fault("gone"))
        self.check("1 + (2 - A1) * gone", fault("kind"), A1=TEXT)
        self.check("-(1 / 0)", fault("zero"))

    def test_v4_division_by_zero(self):
        self.check("1 / 0", fault("zero"))
        self.check("0 / 0", fault("zero"))
        self.check("1 / A1", fault("zero"))
        self.check("1 / A1", fault("zero"), A1=number(0))
        self.check("1 / (2 - 2)", fault("zero"))
        self.check("A1 / 0", fault("kind"), A1=TEXT)
        self.check("gone / 0", fault("gone"))
        self.check("1 / 0 / 0", fault("zero"))

    def test_v4_results_at_the_bounds(self):
        self.check("A1 + 1", number(LIMIT), A1=number(LIMIT - 1))
        self.check("A1 + 1", fault("range"), A1=number(LIMIT))
        self.check("A1 - 1", number(-LIMIT), A1=number(1 - LIMIT))
        self.check("A1 - 1", fault("range"), A1=number(-LIMIT))
        self.check("-A1", number(-LIMIT), A1=number(LIMIT))
        self.check("-A1", number(LIMIT), A1=number(-LIMIT))
        self.check("A1 * 2", number(LIMIT), A1=number(LIMIT // 2))
        self.check("A1 * 2", fault("range"), A1=number(LIMIT // 2 + 1))
        self.check("1 / A1", number(1, LIMIT), A1=number(LIMIT))
        self.check("A1 / 3", fault("range"), A1=number(1, LIMIT))
        self.check("A1 / 2", fault("range"), A1=number(1, LIMIT))
        self.check("A1 + B1", fault("range"), A1=number(LIMIT), B1=number(1, LIMIT))

    def test_v4_no_way_back_into_the_range(self):
        self.check("A1 + 1 - 1", fault("range"), A1=number(LIMIT))
        self.check("A1 * 10 / 10", fault("range"), A1=number(LIMIT))
        self.check("A1 * (10 / 10)", number(LIMIT), A1=number(LIMIT))
        self.check("A1 * 10 + gone", fault("range"), A1=number(LIMIT))


class Calls(Trees):
    def test_v4_sum(self):
        self.check("sum(A1:B2)", number(10), A1=number(1), B1=number(2), A2=number(3), B2=number(4))
        self.check("sum(A1)", number(7, 2), A1=number(7, 2))
        self.check("sum(A1:B2)", number(0))
        self.check("sum(A1:B2)", number(0), A1=TEXT)

    def test_v4_count(self):
        self.check("count(A1:C3)", number(2), A1=number(1), C3=number(0), B1=TEXT, D4=number(9))
        self.check("count(A1:C3)", number(0))
        self.check("count(A1:C3)", number(0), A1=TEXT, B2=("blank",))

    def test_v4_min_and_max(self):
        known = {"A1": number(1, 2), "B1": number(-3), "A2": TEXT, "B2": number(1, 3)}
        self.check("min(A1:B2)", number(-3), **known)
        self.check("max(A1:B2)", number(1, 2), **known)
        self.check("min(C1, A1)", number(1, 2), **known)
        self.check("max(B1)", number(-3), **known)

    def test_v4_min_and_max_compare_fractions_exactly(self):
        known = {"A1": number(1, LIMIT), "B1": number(1, LIMIT - 1), "A2": number(2, 3), "B2": number(3, 4)}
        self.check("min(A1:B1)", number(1, LIMIT), **known)
        self.check("max(A1:B1)", number(1, LIMIT - 1), **known)
        self.check("max(A2:B2)", number(3, 4), **known)

    def test_v4_min_and_max_of_no_numbers(self):
        for name in ("min", "max"):
            self.check(name + "(A1:B2)", fault("none"))
            self.check(name + "(A1:B2)", fault("none"), A1=TEXT, B2=("blank",))
            self.check(name + "(A1:B2)", number(0), A1=TEXT, B2=number(0))

    def test_v4_blank_cells_are_no_zeros(self):
        self.check("min(A1:B2)", number(4), A1=number(4))
        self.check("max(A1:B2)", number(-4), A1=number(-4))

    def test_v4_one_cell_as_an_area_passes_a_text_over(self):
        self.check("sum(A1)", number(0), A1=TEXT)
        self.check("count(A1)", number(0), A1=TEXT)

    def test_v4_several_areas(self):
        self.check("sum(A1, B2:C2, A3)", number(10), A1=number(1), B2=number(2), C2=number(3), A3=number(4))

    def test_v4_a_cell_in_two_blocks_is_visited_twice(self):
        self.check("sum(A1:B1, B1:C1)", number(9), A1=number(1), B1=number(3), C1=number(2))
        self.check("count(A1, A1, A1)", number(3), A1=number(1))
        self.check("count(ab, A1:B1)", number(4), A1=number(1), B1=number(1))

    def test_v4_names(self):
        self.check("sum(ab)", number(3), A1=number(1), B1=number(2), A2=number(8))
        self.check("sum(two)", number(6), A1=number(1), B2=number(5), A2=number(8))
        self.check("count(ab, two)", number(4), A1=number(1), B1=number(2), B2=number(5))

    def test_v4_words_that_are_no_names_and_clashes(self):
        for name in ("sum", "count", "min", "max"):
            self.check(name + "(never)", fault("unknown"))
            self.check(name + "(clash)", fault("clash"))
            self.check(name + "(gone)", fault("gone"))
            self.check(name + "(none)", fault("gone"))
            self.check(name + "(lost)", fault("gone"), A1=number(1), A2=number(2))

    def test_v4_a_fault_in_a_block_is_the_value_of_every_call(self):
        for name in ("sum", "count", "min", "max"):
            self.check(name + "(A1:B2)", fault("zero"), A1=number(1), B2=fault("zero"))

    def test_v4_the_first_fault_of_cells_row_by_row(self):
        self.check("sum(A1:C2)", fault("ring"), C1=fault("ring"), A2=fault("clash"))
        self.check("sum(A1:C2)", fault("clash"), A1=TEXT, B1=fault("clash"), C1=fault("ring"))
        self.check("sum(A2:C2, A1:C1)", fault("clash"), C1=fault("ring"), A2=fault("clash"))

    def test_v4_the_first_fault_of_areas_at_their_places(self):
        self.check("sum(gone, never)", fault("gone"))
        self.check("sum(never, gone)", fault("unknown"))
        self.check("sum(clash, never, gone)", fault("clash"))
        self.check("sum(A1, gone)", fault("zero"), A1=fault("zero"))
        self.check("sum(gone, A1)", fault("gone"), A1=fault("zero"))
        self.check("sum(A1, never, B1)", fault("unknown"), A1=number(1), B1=fault("zero"))

    def test_v4_what_is_gone_in_the_list_of_a_name_has_its_place_there(self):
        self.check("sum(lost)", fault("zero"), A1=fault("zero"), A2=fault("ring"))
        self.check("sum(lost)", fault("gone"), A1=number(1), A2=fault("ring"))
        self.check("sum(A2, lost)", fault("ring"), A1=fault("zero"), A2=fault("ring"))

    def test_v4_a_name_of_several_blocks_is_visited_block_by_block(self):
        self.check("sum(two)", fault("ring"), A1=fault("zero"), B2=fault("ring"))

    def test_v4_a_sum_that_leaves_the_range_on_the_way(self):
        self.check("sum(A1:C1)", fault("range"), A1=number(LIMIT), B1=number(1), C1=number(-1))
        self.check("sum(A1:C1)", number(LIMIT), A1=number(LIMIT), B1=number(-1), C1=number(1))
        self.check("sum(A1:A3)", fault("range"), A1=number(-LIMIT), A2=number(-1), A3=number(LIMIT))
        self.check("sum(A1:B1)", fault("range"), A1=number(LIMIT), B1=number(1))

    def test_v4_a_fault_behind_a_sum_that_leaves_the_range(self):
        self.check("sum(A1:C1)", fault("ring"), A1=number(LIMIT), B1=number(1), C1=fault("ring"))
        self.check("sum(A1:B1, gone)", fault("gone"), A1=number(LIMIT), B1=number(1))

    def test_v4_count_min_and_max_add_nothing(self):
        known = {"A1": number(LIMIT), "B1": number(LIMIT), "C1": number(-LIMIT)}
        self.check("count(A1:C1)", number(3), **known)
        self.check("max(A1:C1)", number(LIMIT), **known)
        self.check("min(A1:C1)", number(-LIMIT), **known)

    def test_v4_calls_as_operands(self):
        self.check("sum(A1:B1) / count(A1:B1)", number(3, 2), A1=number(1), B1=number(2))
        self.check("-sum(A1)", number(-1), A1=number(1))
        self.check("1 + max(C1:D4)", fault("none"))
        self.check("1 / sum(C1:D4)", fault("zero"))


class Cells(unittest.TestCase):
    def check(self, texts, want, **known):
        grid = second.grid(4, 4, {"D4": texts, "A1": "99"}, NAMES)
        values = {at(address): value for address, value in known.items()}
        self.assertEqual(value_from(grid, at("D4"), values), want)

    def test_v5_a_blank_cell(self):
        self.check("", ("blank",))
        self.check([], ("blank",))
        self.check("", ("blank",), D4=number(1))

    def test_v5_texts_and_numbers(self):
        self.check("a text", ("text", "a text"))
        self.check("-2.50", number(-5, 2))
        self.check("-0", number(0))

    def test_v5_a_clash(self):
        self.check(["1", "2"], fault("clash"))
        self.check(["1", "1"], fault("clash"))
        self.check(["", "1"], fault("clash"))
        self.check(["", ""], fault("clash"))
        self.check(["=A1", "=A1", "=A1"], fault("clash"), A1=number(1))

    def test_v5_a_formula(self):
        self.check("=A1 + 1", number(3), A1=number(2))
        self.check("=A1", TEXT, A1=TEXT)
        self.check("=A1", number(0))
        self.check("=sum(ab)", number(2), A1=number(2))

    def test_v5_by_the_known_values_and_not_by_the_grid(self):
        self.check("=A1", number(0))
        self.check("=A1", fault("ring"), A1=fault("ring"))


class Random(unittest.TestCase):
    VALUES = [("blank",), TEXT, number(0), number(1), number(-3, 2), number(LIMIT), number(-LIMIT), number(1, LIMIT),
              number(7), fault("zero"), fault("ring")]

    def test_v4_random_trees(self):
        words = set()
        for start in range(3000):
            chance = random.Random(start)
            grid = second.random_grid(chance, 3, 3, 0)
            known = {cell: chance.choice(self.VALUES[:9] if chance.randrange(3) else self.VALUES)
                     for cell in second.cells_in((0, 0, 2, 2)) if chance.randrange(3) > 0}
            tree = tables.random_tree(chance, 3, 3, 3)
            value = evaluate(grid, tree, known)
            self.assertEqual(value, second.tree_value(tree, known, second.names_of(grid)), tree)
            words.add(value[1] if value[0] == "fault" else value[0])
        self.assertEqual(sorted(words), ["clash", "gone", "kind", "none", "number", "range", "ring", "text",
                                         "unknown", "zero"])

    def test_basics_the_grid_stays_as_it_is(self):
        grid = second.random_grid(random.Random(1), 3, 3, 9)
        before = copy.deepcopy(vars(grid))
        evaluate(grid, read_formula("sum(ab, total) + A1", 3, 3), {})
        for cell in grid.cells():
            value_from(grid, cell, {})
        self.assertEqual(vars(grid), before)

    def test_v4_cells_of_a_grid_without_names(self):
        self.assertEqual(evaluate(Grid(0, 0), ("call", "sum", (("name", "ab"),)), {}), fault("unknown"))


if __name__ == "__main__":
    unittest.main()
