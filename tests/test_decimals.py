"""Number texts: n2, n3 and n4."""

import fractions
import itertools
import re
import unittest

from tablemates.decimals import has_decimal, read_decimal, read_number, read_shown, show, write_number
from tablemates.errors import OutOfRange

DECIMAL = re.compile(r"[0-9]{1,12}(\.[0-9]{1,6})?")
SHOWN = re.compile(r"(0|-?[1-9][0-9]*)(/([2-9]|[1-9][0-9]+))?")
NONE = ["", " ", "-", "+", ".", "-.", ".5", "5.", "-.5", "-5.", "+5", "--5", "5-", " 5", "5 ", "- 5", "1 2",
        "1.2.3", "1..2", "1,5", "1e5", "1q", "0x1", "1_000", "a", "A1", "=1", "1/2", "1234567890123",
        "0000000000000", "1.1234567", "0.0000000", "-1234567890123", "-1.1234567", "\u0663", "1.\u0663",
        "\u00b2", "1\n", "5" * 700, "0." + "5" * 700]


def value_of(text):
    value = fractions.Fraction(text)
    return (value.numerator, value.denominator)


class Reading(unittest.TestCase):
    def test_n2_decimals(self):
        for text in ("0", "7", "007", "12.5", "0.5", "00.50", "1.000000", "3.140000", "0.000001"):
            self.assertEqual(read_decimal(text), value_of(text), text)

    def test_n2_twelve_digits_before_the_point(self):
        self.assertEqual(read_decimal("999999999999"), (10 ** 12 - 1, 1))
        self.assertEqual(read_decimal("000000000001"), (1, 1))
        self.assertEqual(read_decimal("999999999999.999999"), (10 ** 18 - 1, 10 ** 6))
        self.assertIsNone(read_decimal("9999999999999"))
        self.assertIsNone(read_decimal("0000000000001"))

    def test_n2_six_digits_behind_the_point(self):
        self.assertEqual(read_decimal("0.123456"), (1929, 15625))
        self.assertIsNone(read_decimal("0.1234567"))
        self.assertIsNone(read_decimal("0.1000000"))

    def test_n2_a_decimal_has_no_sign(self):
        for text in ("-1", "-0", "-0.5"):
            self.assertIsNone(read_decimal(text))
            self.assertIsNotNone(read_number(text))

    def test_n2_nothing_else_is_one(self):
        for text in NONE:
            self.assertIsNone(read_decimal(text), text)
            self.assertIsNone(read_number(text), text)

    def test_n2_number_texts(self):
        self.assertEqual(read_number("007.50"), (15, 2))
        self.assertEqual(read_number("-12.5"), (-25, 2))
        self.assertEqual(read_number("-0"), (0, 1))
        self.assertEqual(read_number("-0.000"), (0, 1))
        self.assertEqual(read_number("-999999999999.999999"), (1 - 10 ** 18, 10 ** 6))

    def test_n2_all_short_strings(self):
        for length in range(6):
            for characters in itertools.product("05.-", repeat=length):
                text = "".join(characters)
                want = value_of(text) if DECIMAL.fullmatch(text) else None
                self.assertEqual(read_decimal(text), want, text)
                if text.startswith("-"):
                    want = value_of(text) if DECIMAL.fullmatch(text[1:]) else None
                self.assertEqual(read_number(text), want, text)


class Writing(unittest.TestCase):
    def test_n3_fewest_characters(self):
        for text in ("-12.5", "0.5", "3", "0", "-3", "100", "-0.25", "0.000001", "1.000001", "120.34",
                     "999999999999.999999", "-999999999999.999999", "999999999999", "10.01", "-1000"):
            self.assertEqual(write_number(value_of(text)), text)
            self.assertIs(has_decimal(value_of(text)), True)

    def test_n3_zeros_are_left_out(self):
        self.assertEqual(write_number(read_number("007.50")), "7.5")
        self.assertEqual(write_number(read_number("-0")), "0")
        self.assertEqual(write_number(read_number("10.000")), "10")
        self.assertEqual(write_number(read_number("-00.10")), "-0.1")

    def test_n3_fractions_without_a_decimal(self):
        for x in ((1, 3), (-1, 3), (1, 7), (10 ** 12, 1), (-10 ** 12, 1), (10 ** 18, 1), (1, 10 ** 7),
                  (1, 128), (1, 5 ** 7), (1, 10 ** 18), (2 * 10 ** 12 + 1, 2), (10 ** 18, 10 ** 6 - 1)):
            self.assertIs(has_decimal(x), False, x)
            with self.assertRaises(OutOfRange) as caught:
                write_number(x)
            self.assertEqual(caught.exception.word, "x")

    def test_n3_denominators_at_the_edge(self):
        self.assertEqual(write_number((1, 64)), "0.015625")
        self.assertEqual(write_number((1, 15625)), "0.000064")
        self.assertEqual(write_number((-1, 10 ** 6)), "-0.000001")

    def test_n3_numerators_at_the_edge(self):
        self.assertEqual(write_number((10 ** 12 - 1, 1)), "9" * 12)
        self.assertEqual(write_number((2 * 10 ** 12 - 1, 2)), "9" * 12 + ".5")
        self.assertIs(has_decimal((2 * 10 ** 12 - 1, 2)), True)
        self.assertIs(has_decimal((2 * 10 ** 12 + 1, 2)), False)

    def test_n3_written_is_read_as_the_same_fraction(self):
        for n, d in itertools.product(range(-40, 41), (1, 2, 4, 5, 8, 10, 64, 1000, 15625, 10 ** 6)):
            x = value_of(str(n) + "/" + str(d))
            self.assertEqual(read_number(write_number(x)), x)


class Showing(unittest.TestCase):
    def test_n4_shown(self):
        for x, text in (((3, 1), "3"), ((-15, 2), "-15/2"), ((0, 1), "0"), ((-3, 1), "-3"), ((1, 2), "1/2"),
                        ((10 ** 18, 1), "1" + "0" * 18), ((-1, 10 ** 18), "-1/1" + "0" * 18)):
            self.assertEqual(show(x), text)
            self.assertEqual(read_shown(text), x)

    def test_n4_beyond_the_range(self):
        x = (10 ** 18 + 1, 10 ** 19)
        self.assertEqual(read_shown(show(x)), x)

    def test_n4_shows_none(self):
        for text in ("6/4", "3/1", "-0", "03", "", "-", "/", "3/", "/3", "3/0", "0/1", "0/3", "-0/3", "3/02",
                     "03/2", "--3", "+3", "3/-2", "-3/-2", "3/2/2", "1.5", " 3", "3 ", "3 /2", "a", "-a/2",
                     "\u0663", "3/\u0663", "-6/4", "00", "-03", "1/1"):
            self.assertIsNone(read_shown(text), text)

    def test_n4_all_short_strings(self):
        for length in range(6):
            for characters in itertools.product("0236-/", repeat=length):
                text = "".join(characters)
                found = read_shown(text)
                if SHOWN.fullmatch(text) and "/".join(str(part) for part in value_of(text)) in (text, text + "/1"):
                    self.assertEqual(found, value_of(text), text)
                else:
                    self.assertIsNone(found, text)


if __name__ == "__main__":
    unittest.main()
