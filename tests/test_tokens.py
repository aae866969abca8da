"""Tokens and addresses: t2 and t3."""

import itertools
import random
import re
import unittest

from tablemates.tokens import read_address, tokens, write_address

RUN = re.compile(r"[0-9]+(?:\.[0-9]+)?|[A-Z]+[0-9]*|[a-z]+|[^ ]", re.DOTALL)
KINDS = (
    ("decimal", re.compile(r"[0-9]{1,12}(\.[0-9]{1,6})?")),
    ("address", re.compile(r"[A-Z]{1,2}[1-9][0-9]?")),
    ("word", re.compile(r"[a-z]{1,8}")),
    ("sign", re.compile(r"[-+*/(),:]")),
    ("bad", re.compile(r".*", re.DOTALL)),
)


def expected(text):
    """The tokens as regular expressions find them."""
    found = []
    for run in RUN.findall(text):
        kind = [kind for kind, shape in KINDS if shape.fullmatch(run)][0]
        found.append((kind, run))
    return found


class Tokens(unittest.TestCase):
    def check(self, text, *want):
        self.assertEqual(tokens(text), list(want), text)

    def test_t2_kinds(self):
        self.check("12", ("decimal", "12"))
        self.check("12.50", ("decimal", "12.50"))
        self.check("AB12", ("address", "AB12"))
        self.check("total", ("word", "total"))
        for sign in "+-*/(),:":
            self.check(sign, ("sign", sign))

    def test_t2_returns_a_list_of_tuples(self):
        self.assertIsInstance(tokens("1+2"), list)
        self.assertIsInstance(tokens("1+2")[0], tuple)

    def test_t2_spaces(self):
        self.check("")
        self.check("   ")
        self.check("  1  2 ", ("decimal", "1"), ("decimal", "2"))
        self.check("A 1", ("bad", "A"), ("decimal", "1"))
        self.check("1 .5", ("decimal", "1"), ("bad", "."), ("decimal", "5"))
        self.check("su m", ("word", "su"), ("word", "m"))

    def test_t2_points(self):
        self.check("1.2.3", ("decimal", "1.2"), ("bad", "."), ("decimal", "3"))
        self.check("1.", ("decimal", "1"), ("bad", "."))
        self.check(".5", ("bad", "."), ("decimal", "5"))
        self.check("1..2", ("decimal", "1"), ("bad", "."), ("bad", "."), ("decimal", "2"))
        self.check("1.a", ("decimal", "1"), ("bad", "."), ("word", "a"))
        self.check("A1.5", ("address", "A1"), ("bad", "."), ("decimal", "5"))
        self.check("-1.5", ("sign", "-"), ("decimal", "1.5"))

    def test_t2_long_decimals(self):
        self.check("123456789012", ("decimal", "123456789012"))
        self.check("1234567890123", ("bad", "1234567890123"))
        self.check("0000000000000", ("bad", "0000000000000"))
        self.check("1.123456", ("decimal", "1.123456"))
        self.check("1.1234567", ("bad", "1.1234567"))
        self.check("1234567890123.5", ("bad", "1234567890123.5"))

    def test_t2_addresses(self):
        self.check("A1", ("address", "A1"))
        self.check("ZZ99", ("address", "ZZ99"))
        self.check("A0", ("bad", "A0"))
        self.check("A01", ("bad", "A01"))
        self.check("ABC1", ("bad", "ABC1"))
        self.check("A", ("bad", "A"))
        self.check("ABC", ("bad", "ABC"))
        self.check("A100", ("bad", "A100"))
        self.check("A1B2", ("address", "A1"), ("address", "B2"))
        self.check("1A1", ("decimal", "1"), ("address", "A1"))
        self.check("A1a", ("address", "A1"), ("word", "a"))

    def test_t2_words(self):
        self.check("abcdefgh", ("word", "abcdefgh"))
        self.check("abcdefghi", ("bad", "abcdefghi"))
        self.check("x", ("word", "x"))
        self.check("sum1", ("word", "sum"), ("decimal", "1"))
        self.check("Asum", ("bad", "A"), ("word", "sum"))
        self.check("sumA1", ("word", "sum"), ("address", "A1"))

    def test_t2_other_characters(self):
        self.check("=1", ("bad", "="), ("decimal", "1"))
        for character in "!\"#$&';<=>?@[\\]^_`{|}~.%\n\t\u0663\u00b2\u00e4\u00c4":
            self.check(character * 2, ("bad", character), ("bad", character))

    def test_t2_all_short_strings(self):
        for length in range(5):
            for characters in itertools.product("01.Aa (", repeat=length):
                text = "".join(characters)
                self.assertEqual(tokens(text), expected(text), text)

    def test_t2_long_strings(self):
        chance = random.Random(2)
        for characters in ("0123456789.", "ABZ019", "abz ", "Aa1. +", "01.ABaz +-*/(),:=%"):
            for _ in range(60):
                text = "".join(chance.choice(characters) for _ in range(chance.randint(1, 700)))
                self.assertEqual(tokens(text), expected(text), text)

    def test_c2_seven_hundred_characters(self):
        for character in "1Aa+.( ":
            self.assertEqual(tokens(character * 700), expected(character * 700))
            self.assertEqual(tokens(character * 900), expected(character * 900))


class Addresses(unittest.TestCase):
    def test_t3_edges(self):
        for text, cell in (("A1", (0, 0)), ("Z1", (0, 25)), ("AA1", (0, 26)), ("AZ1", (0, 51)),
                           ("BA1", (0, 52)), ("ZZ1", (0, 701)), ("A99", (98, 0)), ("ZZ99", (98, 701)),
                           ("B12", (11, 1)), ("AA10", (9, 26))):
            self.assertEqual(read_address(text), cell)
            self.assertEqual(write_address(*cell), text)

    def test_t3_all_cells(self):
        letters = "ABCDEFGHIJKLMNOPQRSTUVWXYZ"
        columns = list(letters) + [first + second for first in letters for second in letters]
        self.assertEqual(len(columns), 702)
        for column, name in enumerate(columns):
            for row in range(99):
                self.assertEqual(write_address(row, column), name + str(row + 1))
                self.assertEqual(read_address(name + str(row + 1)), (row, column))

    def test_t3_no_address(self):
        for text in ("", "A", "1", "A0", "A01", "A00", "A100", "AAA1", "ABC", "a1", "aA1", "Aa1", "1A", "A1A",
                     "A1 ", " A1", "A 1", "A-1", "A1.", "A1.5", "$A$1", "A\u0663", "\u00c41", "A1:B2", "AA",
                     "A1\n", "9" * 700, "A" * 700):
            self.assertIsNone(read_address(text), text)

    def test_t3_somewhat_beyond(self):
        self.assertEqual(write_address(99, 0), "A100")
        self.assertEqual(write_address(0, 702), "AAA1")


if __name__ == "__main__":
    unittest.main()
