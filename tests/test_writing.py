"""Written formulas: t7 and t8."""

import itertools
import random
import unittest

import samples
from tablemates.errors import FormulaFault
from tablemates.grammar import read_formula
from tablemates.tokens import tokens
from tablemates.writing import write_formula

A = ("cell", 0, 0)
B = ("cell", 0, 1)
C = ("cell", 0, 2)
NEG = ("neg", A)


def op(sign, left, right):
    return ("op", sign, left, right)


class Written(unittest.TestCase):
    def check(self, tree, want):
        self.assertEqual(write_formula(tree), want)

    def test_t7_single_trees(self):
        self.check(("num", (25, 2)), "12.5")
        self.check(("num", (0, 1)), "0")
        self.check(("cell", 11, 1), "B12")
        self.check(("cell", 98, 701), "ZZ99")
        self.check(("gone",), "gone")

    def test_t7_areas(self):
        self.check(("call", "sum", (("block", 0, 0, 1, 2),)), "sum(A1:C2)")
        self.check(("call", "sum", (("block", 0, 0, 0, 2),)), "sum(A1:C1)")
        self.check(("call", "sum", (("block", 0, 1, 4, 1),)), "sum(B1:B5)")
        self.check(("call", "min", (("block", 3, 2, 3, 2),)), "min(C4)")
        self.check(("call", "max", (("gone",),)), "max(gone)")
        self.check(("call", "count", (("name", "total"),)), "count(total)")
        self.check(("call", "sum", (("name", "ab"), ("gone",), ("block", 0, 0, 0, 0))), "sum(ab, gone, A1)")

    def test_t7_operators(self):
        for sign in "+-*/":
            self.check(op(sign, A, B), "A1 " + sign + " B1")
        for sign in "+-*/":
            self.check(op(sign, ("gone",), ("call", "sum", (("gone",),))), "gone " + sign + " sum(gone)")

    def test_t7_brackets_around_sums(self):
        for first, second in itertools.product("+-", "+-*/"):
            within = op(first, A, B)
            text = "A1 " + first + " B1"
            if second in "*/":
                self.check(op(second, within, C), "(" + text + ") " + second + " C1")
            else:
                self.check(op(second, within, C), text + " " + second + " C1")
            self.check(op(second, C, within), "C1 " + second + " (" + text + ")")

    def test_t7_brackets_around_products(self):
        for first, second in itertools.product("*/", "+-*/"):
            within = op(first, A, B)
            text = "A1 " + first + " B1"
            self.check(op(second, within, C), text + " " + second + " C1")
            if second in "*/":
                self.check(op(second, C, within), "C1 " + second + " (" + text + ")")
            else:
                self.check(op(second, C, within), "C1 " + second + " " + text)

    def test_t7_brackets_behind_a_minus(self):
        for sign in "+-*/":
            self.check(("neg", op(sign, A, B)), "-(A1 " + sign + " B1)")
        self.check(("neg", NEG), "-(-A1)")
        self.check(("neg", ("neg", NEG)), "-(-(-A1))")

    def test_t7_no_brackets_behind_a_minus(self):
        self.check(NEG, "-A1")
        self.check(("neg", ("num", (1, 2))), "-0.5")
        self.check(("neg", ("gone",)), "-gone")
        self.check(("neg", ("call", "sum", (("name", "ab"),))), "-sum(ab)")

    def test_t7_no_brackets_around_a_minus(self):
        for sign in "+-*/":
            self.check(op(sign, NEG, B), "-A1 " + sign + " B1")
            self.check(op(sign, B, NEG), "B1 " + sign + " -A1")

    def test_t7_no_brackets_in_a_chain(self):
        self.check(op("-", op("+", op("-", A, B), C), A), "A1 - B1 + C1 - A1")
        self.check(op("/", op("*", op("/", A, B), C), A), "A1 / B1 * C1 / A1")

    def test_t7_somewhat_beyond_the_bounds(self):
        tree = A
        for _ in range(150):
            tree = op("-", B, tree)
        self.check(tree, "B1 - (" * 149 + "B1 - A1" + ")" * 149)


class ReadAgain(unittest.TestCase):
    def check(self, text):
        tree = read_formula(text, 9, 9)
        written = write_formula(tree)
        self.assertEqual(read_formula(written, 9, 9), tree, text)
        self.assertEqual(write_formula(read_formula(written, 9, 9)), written)
        return written

    def test_t8_spaces_and_brackets_that_are_not_needed(self):
        self.assertEqual(self.check("((A1))*(  (B1))"), "A1 * B1")
        self.assertEqual(self.check("(A1*B1)+(C1)"), "A1 * B1 + C1")
        self.assertEqual(self.check("(A1+B1)-C1"), "A1 + B1 - C1")
        self.assertEqual(self.check("A1+(B1-C1)"), "A1 + (B1 - C1)")
        self.assertEqual(self.check("sum( B2 :A1 ,ab)"), "sum(A1:B2, ab)")
        self.assertEqual(self.check("sum(A1:A1)"), "sum(A1)")
        self.assertEqual(self.check("-(5)"), "-5")
        self.assertEqual(self.check("007.50"), "7.5")

    def test_t8_random_formulas(self):
        chance = random.Random(8)
        for _ in range(2000):
            self.check(samples.short_formula(chance, 9, 9))

    def test_t8_all_small_trees(self):
        small = [A, ("num", (1, 1)), ("neg", A)]
        more = list(small)
        for sign, left, right in itertools.product("+-*/", small, small):
            more.append(op(sign, left, right))
        more += [("neg", tree) for tree in more[3:]]
        for sign, left, right in itertools.product("+-*/", more, more):
            tree = op(sign, left, right)
            text = write_formula(tree)
            self.assertLessEqual(len(tokens(text)), 30)
            self.assertEqual(read_formula(text, 9, 9), tree, text)

    def test_t8_no_bracket_can_be_left_out(self):
        chance = random.Random(88)
        for _ in range(500):
            tree = read_formula(samples.short_formula(chance, 9, 9), 9, 9)
            row = tokens(write_formula(tree))
            for opening, closing in round_brackets(row):
                strings = [string for at, (_, string) in enumerate(row) if at not in (opening, closing)]
                try:
                    self.assertNotEqual(read_formula(" ".join(strings), 9, 9), tree)
                except FormulaFault:
                    pass

    def test_t8_thirty_tokens(self):
        text = "-A1 + " + "B1 + " * 13 + "B1"
        self.assertEqual(len(tokens(text)), 30)
        self.assertEqual(self.check(text), text)

    def test_t8_more_than_thirty_tokens(self):
        tree = A
        for _ in range(15):
            tree = op("+", tree, B)
        text = write_formula(tree)
        self.assertEqual(text, "A1" + " + B1" * 15)
        self.assertEqual(len(tokens(text)), 31)
        with self.assertRaises(FormulaFault) as caught:
            read_formula(text, 9, 9)
        self.assertEqual((caught.exception.place, caught.exception.word), (30, "long"))

    def test_t8_brackets_six_and_seven_deep(self):
        tree = A
        for _ in range(7):
            tree = ("neg", tree)
        text = write_formula(tree)
        self.assertEqual(text, "-(" * 6 + "-A1" + ")" * 6)
        self.assertEqual(read_formula(text, 9, 9), tree)
        text = write_formula(("neg", tree))
        self.assertEqual(text, "-(" * 7 + "-A1" + ")" * 7)
        with self.assertRaises(FormulaFault):
            read_formula(text, 9, 9)


def round_brackets(row):
    """The places of the pairs of brackets that are not those of a call."""
    found = []
    waiting = []
    for at, (_, string) in enumerate(row):
        if string == "(":
            waiting.append(at)
        if string == ")":
            opening = waiting.pop()
            if opening == 0 or row[opening - 1][0] != "word":
                found.append((opening, at))
    return found


if __name__ == "__main__":
    unittest.main()
