"""Contents: t9."""

import random
import unittest

import samples
from tablemates.contents import read_content, write_content
from tablemates.errors import FormulaFault
from tablemates.grammar import read_formula


class Contents(unittest.TestCase):
    def check(self, text, want):
        self.assertEqual(read_content(text, 4, 4), want)
        self.assertEqual(write_content(want), text)

    def fault(self, text, rows=4, columns=4):
        with self.assertRaises(FormulaFault, msg=text) as caught:
            read_content(text, rows, columns)
        return (caught.exception.place, caught.exception.word)

    def test_t9_blank(self):
        self.check("", ("blank",))

    def test_t9_numbers(self):
        self.check("12", ("number", (12, 1)))
        self.check("-12.5", ("number", (-25, 2)))
        self.check("0", ("number", (0, 1)))
        self.check("-999999999999.999999", ("number", (1 - 10 ** 18, 10 ** 6)))

    def test_t9_numbers_are_written_anew(self):
        for text, want in (("007.50", "7.5"), ("-0", "0"), ("0.0", "0"), ("-01", "-1")):
            content = read_content(text, 4, 4)
            self.assertEqual(content[0], "number")
            self.assertEqual(write_content(content), want)

    def test_t9_texts(self):
        for text in (" 12", "12 ", " ", "a", "A1", "sum(A1)", " = 12", "+5", ".5", "5.", "1/2", "1234567890123",
                     "1.1234567", "-", "--1", "'", "!ring", "\"\\", "x" * 60, "- 1"):
            self.check(text, ("text", text))

    def test_t9_formulas(self):
        self.check("=12", ("formula", ("num", (12, 1))))
        self.check("=-12", ("formula", ("neg", ("num", (12, 1)))))
        self.check("=A1 * 2", ("formula", ("op", "*", ("cell", 0, 0), ("num", (2, 1)))))
        self.check("=gone", ("formula", ("gone",)))

    def test_t9_formulas_are_written_anew(self):
        for text, want in (("= 12", "=12"), ("=  ( A1 )", "=A1"), ("=007.50", "=7.5"), ("= A1*2", "=A1 * 2")):
            content = read_content(text, 4, 4)
            self.assertEqual(content[0], "formula")
            self.assertEqual(write_content(content), want)

    def test_t9_places_are_counted_in_the_rest(self):
        self.assertEqual(self.fault("="), (0, "end"))
        self.assertEqual(self.fault("= "), (0, "end"))
        self.assertEqual(self.fault("==1"), (0, "unexpected"))
        self.assertEqual(self.fault("=1 1"), (1, "unexpected"))
        self.assertEqual(self.fault("=1 +"), (2, "end"))
        self.assertEqual(self.fault("=1 + A5"), (2, "range"))
        self.assertEqual(self.fault("=" + "1 " * 31), (30, "long"))
        self.assertEqual(self.fault("=hello"), (0, "unexpected"))

    def test_t9_thirty_tokens_behind_the_sign(self):
        self.assertEqual(read_content("=-1" + "+1" * 14, 4, 4)[0], "formula")
        self.assertEqual(self.fault("=1" + "+1" * 15), (30, "long"))

    def test_t9_grids_without_cells(self):
        self.assertEqual(read_content("12", 0, 0), ("number", (12, 1)))
        self.assertEqual(read_content("A1", 0, 0), ("text", "A1"))
        self.assertEqual(self.fault("=A1", 0, 3), (0, "range"))
        self.assertEqual(self.fault("=A1", 3, 0), (0, "range"))

    def test_t9_written_contents_are_read_as_themselves(self):
        chance = random.Random(9)
        for _ in range(500):
            text = "=" + samples.short_formula(chance, 4, 4)
            content = read_content(text, 4, 4)
            self.assertEqual(content, ("formula", read_formula(text[1:], 4, 4)))
            self.assertEqual(read_content(write_content(content), 4, 4), content)

    def test_c2_seven_hundred_characters(self):
        text = "x" * 700
        self.check(text, ("text", text))
        self.check("1" * 700, ("text", "1" * 700))
        self.assertEqual(self.fault("=" + "1" * 699), (0, "unexpected"))


if __name__ == "__main__":
    unittest.main()
