"""The grammar of formulas: t4, t5, t6, and the bounds of c2."""

import ast
import fractions
import itertools
import random
import unittest

import samples
from tablemates.errors import FormulaFault
from tablemates.grammar import begins, read_formula
from tablemates.tokens import tokens

ONE = ("num", (1, 1))
A1 = ("cell", 0, 0)
B1 = ("cell", 0, 1)
SYMBOLS = ("1", "A1", "gone", "sum", "total", "x", "+", "-", "*", "/", "(", ")", ",", ":")


class Recognizer:
    """Follows the grammar of t4 word by word, along all ways at once.

    Each method returns the set of the places that may stand behind what it reads from a place on.
    `wanted` becomes True if a way asks for a token behind the last one.
    """

    def __init__(self, row):
        self.row = row
        self.wanted = False

    def one(self, at, fits):
        if at == len(self.row):
            self.wanted = True
            return set()
        return {at + 1} if fits(*self.row[at]) else set()

    def sign(self, at, signs):
        return self.one(at, lambda kind, string: kind == "sign" and string in signs)

    def each(self, places, read):
        return set(itertools.chain.from_iterable(read(at) for at in places))

    def repeated(self, places, read):
        found = set(places)
        while True:
            more = found | self.each(found, read)
            if more == found:
                return found
            found = more

    def formula(self, at, depth):
        def more(place):
            return self.each(self.sign(place, "+-"), lambda place: self.term(place, depth))
        return self.repeated(self.term(at, depth), more)

    def term(self, at, depth):
        def more(place):
            return self.each(self.sign(place, "*/"), lambda place: self.factor(place, depth))
        return self.repeated(self.factor(at, depth), more)

    def factor(self, at, depth):
        return self.each({at} | self.sign(at, "-"), lambda place: self.primary(place, depth))

    def primary(self, at, depth):
        found = self.one(at, lambda kind, string: kind in ("decimal", "address") or string == "gone")
        call = self.one(at, lambda kind, string: string in ("sum", "count", "min", "max"))
        call = self.each(self.each(call, lambda place: self.sign(place, "(")), self.area)
        call = self.repeated(call, lambda place: self.each(self.sign(place, ","), self.area))
        found = found | self.each(call, lambda place: self.sign(place, ")"))
        if depth < 6:
            within = self.each(self.sign(at, "("), lambda place: self.formula(place, depth + 1))
            found = found | self.each(within, lambda place: self.sign(place, ")"))
        return found

    def area(self, at):
        def is_word(kind, string):
            calls = ("sum", "count", "min", "max")
            return kind == "word" and (string == "gone" or len(string) > 1 and string not in calls)

        def is_address(kind, string):
            return kind == "address"
        first = self.one(at, is_address)
        second = self.each(first, lambda place: self.sign(place, ":"))
        return self.one(at, is_word) | first | self.each(second, lambda place: self.one(place, is_address))


def recognized(row):
    """Whether the tokens begin a formula, and whether they are one."""
    reader = Recognizer(row)
    whole = len(row) in reader.formula(0, 0)
    return (whole or reader.wanted, whole)


def python_tree(node, cell_of):
    """The tree of what Python reads: its signs bind as those of t4 do."""
    if isinstance(node, ast.BinOp):
        sign = {ast.Add: "+", ast.Sub: "-", ast.Mult: "*", ast.Div: "/"}[type(node.op)]
        return ("op", sign, python_tree(node.left, cell_of), python_tree(node.right, cell_of))
    if isinstance(node, ast.UnaryOp):
        return ("neg", python_tree(node.operand, cell_of))
    if isinstance(node, ast.Call):
        if node.func.id == "number":
            value = fractions.Fraction(node.args[0].value)
            return ("num", (value.numerator, value.denominator))
        return ("call", node.func.id, tuple(python_area(part.id, cell_of) for part in node.args))
    if node.id == "gone":
        return ("gone",)
    return ("cell",) + cell_of(node.id)


def python_area(word, cell_of):
    if word == "gone":
        return ("gone",)
    if word.islower():
        return ("name", word)
    corners = [cell_of(part) for part in word.split("_")]
    rows = sorted([corners[0][0], corners[-1][0]])
    columns = sorted([corners[0][1], corners[-1][1]])
    return ("block", rows[0], columns[0], rows[1], columns[1])


def expected_tree(strings):
    text = ""
    for string in strings:
        if string[0].isdigit():
            string = "number('" + string + "')"
        text += "_" if string == ":" else " " + string if string not in samples.WORDS else string
    text = text.replace("_ ", "_")
    return python_tree(ast.parse(text.strip(), mode="eval").body, lambda name: (int(name[1:]) - 1, ord(name[0]) - 65))


class Faults(unittest.TestCase):
    """A base class for tests that look at faults."""

    def fault(self, text, rows=9, columns=9):
        with self.assertRaises(FormulaFault, msg=text) as caught:
            read_formula(text, rows, columns)
        return (caught.exception.place, caught.exception.word)


class Trees(unittest.TestCase):
    def check(self, text, want):
        self.assertEqual(read_formula(text, 9, 9), want, text)

    def test_t4_primaries(self):
        self.check("1", ONE)
        self.check("007.50", ("num", (15, 2)))
        self.check("A1", A1)
        self.check("I9", ("cell", 8, 8))
        self.check("gone", ("gone",))
        self.check("(1)", ONE)
        self.check("((A1))", A1)
        self.check("sum(A1)", ("call", "sum", (("block", 0, 0, 0, 0),)))

    def test_t4_operators_bind_from_the_left(self):
        self.check("1 - 1 - 1", ("op", "-", ("op", "-", ONE, ONE), ONE))
        self.check("1 / 1 * 1", ("op", "*", ("op", "/", ONE, ONE), ONE))
        self.check("1 - (1 - 1)", ("op", "-", ONE, ("op", "-", ONE, ONE)))

    def test_t4_terms_bind_first(self):
        self.check("1 + A1 * B1", ("op", "+", ONE, ("op", "*", A1, B1)))
        self.check("1 * A1 - B1", ("op", "-", ("op", "*", ONE, A1), B1))
        self.check("(1 + A1) * B1", ("op", "*", ("op", "+", ONE, A1), B1))

    def test_t4_minus_before_a_primary(self):
        self.check("-A1", ("neg", A1))
        self.check("-A1 * B1", ("op", "*", ("neg", A1), B1))
        self.check("A1 * -B1", ("op", "*", A1, ("neg", B1)))
        self.check("-A1 + B1", ("op", "+", ("neg", A1), B1))
        self.check("A1 - -1", ("op", "-", A1, ("neg", ONE)))
        self.check("-(-1)", ("neg", ("neg", ONE)))
        self.check("-sum(ab)", ("neg", ("call", "sum", (("name", "ab"),))))
        self.check("-(A1 + B1)", ("neg", ("op", "+", A1, B1)))

    def test_t4_blocks_from_opposite_corners(self):
        block = ("block", 1, 2, 4, 5)
        for corners in ("C2:F5", "F5:C2", "C5:F2", "F2:C5"):
            self.check("max(" + corners + ")", ("call", "max", (block,)))
        self.check("min(C2:C2)", ("call", "min", (("block", 1, 2, 1, 2),)))
        self.check("min(C2:C4)", ("call", "min", (("block", 1, 2, 3, 2),)))

    def test_t4_calls(self):
        for name in ("sum", "count", "min", "max"):
            self.check(name + "(gone)", ("call", name, (("gone",),)))
        self.check("sum(ab, A1 , gone,B1:A1)",
                   ("call", "sum", (("name", "ab"), ("block", 0, 0, 0, 0), ("gone",), ("block", 0, 0, 0, 1))))

    def test_t4_example(self):
        self.assertEqual(
            read_formula("-(A1 + 2) * sum(B2:A1, total)", 2, 2),
            ("op", "*", ("neg", ("op", "+", A1, ("num", (2, 1)))),
             ("call", "sum", (("block", 0, 0, 1, 1), ("name", "total")))))

    def test_t4_random_formulas(self):
        chance = random.Random(4)
        for _ in range(1500):
            strings = samples.formula(chance, 9, 9, 3)
            if len(strings) <= 30:
                self.check(samples.spelled(chance, strings), expected_tree(strings))

    def test_t4_six_brackets(self):
        self.check("(" * 6 + "1" + ")" * 6, ONE)
        self.check("(" * 5 + "(1)+(1)" + ")" * 5, ("op", "+", ONE, ONE))
        self.check("(" * 6 + "sum(ab)" + ")" * 6, ("call", "sum", (("name", "ab"),)))
        self.check("-(" * 6 + "1" + ")" * 6, ("neg", ("neg", ("neg", ("neg", ("neg", ("neg", ONE)))))))


class Begins(unittest.TestCase):
    def check(self, text, want):
        self.assertIs(begins(tokens(text)), want, text)

    def test_t5_beginnings(self):
        for text in ("", "1", "A1", "-", "(", "sum", "sum(", "sum(A1", "sum(A1:", "sum(A1:B2", "sum(A1,",
                     "sum(gone", "sum(ab", "1 +", "1 + -", "gone", "(1", "(1)", "-(", "sum(ab)", "sum(ab) *"):
            self.check(text, True)

    def test_t5_no_beginnings(self):
        for text in (")", "+", "*", ",", ":", "--", "1 1", "1 A1", "A1:", "A1:B2", "total", "x", "1(", "(1))",
                     "1)", "sum 1", "sum()", "sum(1", "sum(x", "sum(sum", "sum(-", "sum((", "sum(A1 B1",
                     "sum(A1:gone", "sum(A1:ab", "sum(gone:", "sum(ab:", "sum(A1:B2:", "gone(", "1 + +", "1,"):
            self.check(text, False)

    def test_t5_bad_tokens(self):
        for text in ("A0", "1 + A", "=", "1.", ".5", "sum(abcdefghi", "1234567890123", "-?"):
            self.check(text, False)

    def test_t5_brackets(self):
        self.check("(" * 6, True)
        self.check("(" * 7, False)
        self.check("(" * 6 + "1" + ")" * 6, True)
        self.check("(" * 6 + "1" + ")" * 7, False)
        self.check("(" * 6 + "1) + (1", True)
        self.check("(" * 6 + "1 + (1", False)
        self.check("(" * 6 + "sum(A1", True)
        self.check("(" * 6 + "sum((", False)

    def test_t5_of_any_length(self):
        self.check("1+" * 350, True)
        self.check("1+" * 349 + "1)", False)
        self.check("(1)-" * 175, True)
        self.check("sum(" + "A1," * 230, True)
        self.check("(" * 700, False)
        self.check("-(" * 6 + "1*" * 300, True)

    def test_t5_all_short_rows(self):
        known = {symbol: tokens(symbol)[0] for symbol in SYMBOLS}
        for length in range(5):
            for symbols in itertools.product(SYMBOLS, repeat=length):
                row = [known[symbol] for symbol in symbols]
                self.assertIs(begins(row), recognized(row)[0], symbols)

    def test_t5_random_rows(self):
        chance = random.Random(5)
        for _ in range(1500):
            row = []
            while len(row) < 24:
                more = row + tokens(chance.choice(SYMBOLS + ("(", "(", "-")))
                want = recognized(more)[0]
                self.assertIs(begins(more), want, more)
                if not want:
                    break
                row = more


class FirstFault(Faults):
    def test_t6_long(self):
        self.assertEqual(self.fault("1+" * 15 + "1"), (30, "long"))
        self.assertEqual(read_formula("-" + "1+" * 14 + "1", 0, 0)[0], "op")
        self.assertEqual(self.fault("1 " * 31), (30, "long"))
        self.assertEqual(self.fault("?" * 700), (30, "long"))

    def test_t6_thirty_tokens_are_not_long(self):
        self.assertEqual(len(tokens("-" + "1+" * 14 + "1")), 30)
        self.assertEqual(self.fault("1+" * 15), (30, "end"))
        self.assertEqual(self.fault("1+" * 14 + "1)"), (29, "unexpected"))

    def test_t6_unexpected(self):
        for text, place in (("1 1", 1), (")", 0), ("1 + * 2", 2), ("total", 0), ("x", 0), ("sum()", 2), ("A1:B2", 1),
                            ("1.2.3", 1), ("A0 + 1", 0), ("1 + A", 2), ("sum(A1:)", 4), ("sum(x)", 2), ("--1", 1),
                            ("1 + 2 ?", 3), ("= 1", 0), ("sum(max)", 2), ("(1))", 3), ("1,2", 1), ("gone gone", 1)):
            self.assertEqual(self.fault(text), (place, "unexpected"), text)

    def test_t6_the_seventh_bracket(self):
        self.assertEqual(self.fault("(" * 7 + "1" + ")" * 7), (6, "unexpected"))
        self.assertEqual(self.fault("1 + " + "(" * 7), (8, "unexpected"))
        self.assertEqual(self.fault("((1) * (" + "(" * 5 + "1"), (10, "unexpected"))

    def test_t6_end(self):
        for text, place in (("", 0), ("  ", 0), ("1 +", 2), ("(1", 2), ("-", 1), ("sum", 1), ("sum(", 2),
                            ("sum(A1", 3), ("sum(A1:", 4), ("sum(ab,", 4), ("((1)", 4), ("(" * 6, 6)):
            self.assertEqual(self.fault(text), (place, "end"), text)

    def test_t6_range(self):
        self.assertEqual(self.fault("A3", 2, 2), (0, "range"))
        self.assertEqual(self.fault("C1", 2, 2), (0, "range"))
        self.assertEqual(self.fault("A1 + C1 + A3", 2, 2), (2, "range"))
        self.assertEqual(self.fault("sum(A1:C1)", 2, 2), (4, "range"))
        self.assertEqual(self.fault("sum(C1:A1)", 2, 2), (2, "range"))
        self.assertEqual(self.fault("sum(ab, gone, A3)", 2, 2), (6, "range"))
        self.assertEqual(read_formula("B2", 2, 2), ("cell", 1, 1))
        self.assertEqual(read_formula("ZZ99", 99, 702), ("cell", 98, 701))
        self.assertEqual(self.fault("ZZ99", 98, 702), (0, "range"))
        self.assertEqual(self.fault("ZZ99", 99, 701), (0, "range"))

    def test_t6_grids_without_cells(self):
        self.assertEqual(self.fault("A1", 0, 6), (0, "range"))
        self.assertEqual(self.fault("A1", 8, 0), (0, "range"))
        self.assertEqual(self.fault("1 + A1", 0, 0), (2, "range"))
        self.assertEqual(read_formula("1 + gone + sum(ab)", 0, 0)[0], "op")

    def test_t6_the_first_that_applies(self):
        self.assertEqual(self.fault(") " + "1 " * 30), (30, "long"))
        self.assertEqual(self.fault("Z9 + " * 20, 2, 2), (30, "long"))
        self.assertEqual(self.fault("Z9 + )", 2, 2), (2, "unexpected"))
        self.assertEqual(self.fault("Z9 +", 2, 2), (2, "end"))
        self.assertEqual(self.fault("(1 )) ("), (3, "unexpected"))
        self.assertEqual(self.fault("1 ) + )"), (1, "unexpected"))

    def test_t6_like_the_grammar(self):
        chance = random.Random(6)
        for _ in range(3000):
            text = samples.short_formula(chance, 9, 9)
            at = chance.randrange(len(text))
            text = text[:at] + chance.choice(("", "(", ")", "-", "?", "A1", " ", ",", ":", "ab")) + text[at + 1:]
            row = tokens(text)
            many = len([at for at in range(len(row)) if recognized(row[:at + 1])[0]])
            if len(row) > 30:
                self.assertEqual(self.fault(text), (30, "long"), text)
            elif many < len(row):
                self.assertEqual(self.fault(text), (many, "unexpected"), text)
            elif not recognized(row)[1]:
                self.assertEqual(self.fault(text), (many, "end"), text)

    def test_c2_seven_hundred_characters(self):
        for text in ("1" * 700, "A" * 700, "a" * 700, "(" * 700, "1+" * 350, "." * 700, "-" * 700):
            self.assertIn(self.fault(text), ((0, "unexpected"), (30, "long")), text)
        self.assertEqual(read_formula(" " * 699 + "1", 1, 1), ONE)
        self.assertEqual(self.fault(" " * 700), (0, "end"))


if __name__ == "__main__":
    unittest.main()
