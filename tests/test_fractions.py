"""Fractions: c3 and n1."""

import fractions
import itertools
import unittest

from tablemates.fractions import add, divide, fraction, in_range, less, multiply, subtract

TOP = 10 ** 18
EDGES = [(0, 1), (1, 1), (-1, 1), (1, 2), (-1, 2), (2, 3), (-7, 6), (5, 4), (12, 1), (-12, 1),
         (TOP, 1), (-TOP, 1), (TOP - 1, 1), (1, TOP), (-1, TOP), (TOP - 1, TOP), (1 - TOP, TOP),
         (TOP, TOP - 1), (1, TOP - 1), (10 ** 9, 1), (1, 10 ** 9), (-10 ** 9, 7)]


def plain(x):
    return fractions.Fraction(x[0], x[1])


def expected(value):
    if abs(value.numerator) > TOP or value.denominator > TOP:
        return None
    return (value.numerator, value.denominator)


class Lowest(unittest.TestCase):
    def test_c3_lowest_terms(self):
        self.assertEqual(fraction(6, 4), (3, 2))
        self.assertEqual(fraction(3, 2), (3, 2))
        self.assertEqual(fraction(4, 2), (2, 1))

    def test_c3_signs(self):
        self.assertEqual(fraction(6, -4), (-3, 2))
        self.assertEqual(fraction(-6, 4), (-3, 2))
        self.assertEqual(fraction(-6, -4), (3, 2))

    def test_c3_zero(self):
        self.assertEqual(fraction(0, 5), (0, 1))
        self.assertEqual(fraction(0, -5), (0, 1))
        self.assertEqual(fraction(0, 1), (0, 1))

    def test_c3_beyond_the_range(self):
        self.assertEqual(fraction(TOP + 1, 1), (TOP + 1, 1))
        self.assertEqual(fraction(4, 2 * TOP + 2), (2, TOP + 1))

    def test_c3_like_python(self):
        for n, d in itertools.product(range(-12, 13), range(-12, 13)):
            if d != 0:
                value = fractions.Fraction(n, d)
                self.assertEqual(fraction(n, d), (value.numerator, value.denominator))


class Range(unittest.TestCase):
    def test_n1_numerator(self):
        self.assertIs(in_range((TOP, 1)), True)
        self.assertIs(in_range((-TOP, 1)), True)
        self.assertIs(in_range((TOP + 1, 1)), False)
        self.assertIs(in_range((-TOP - 1, 1)), False)

    def test_n1_denominator(self):
        self.assertIs(in_range((1, TOP)), True)
        self.assertIs(in_range((-1, TOP)), True)
        self.assertIs(in_range((1, TOP + 1)), False)
        self.assertIs(in_range((TOP, TOP + 1)), False)

    def test_n1_zero(self):
        self.assertIs(in_range((0, 1)), True)


class Results(unittest.TestCase):
    def test_n1_exact_results(self):
        for x, y in itertools.product(EDGES, EDGES):
            self.assertEqual(add(x, y), expected(plain(x) + plain(y)), (x, y))
            self.assertEqual(subtract(x, y), expected(plain(x) - plain(y)), (x, y))
            self.assertEqual(multiply(x, y), expected(plain(x) * plain(y)), (x, y))
            if y[0] != 0:
                self.assertEqual(divide(x, y), expected(plain(x) / plain(y)), (x, y))

    def test_n1_sum_at_the_bound(self):
        self.assertEqual(add((TOP - 1, 1), (1, 1)), (TOP, 1))
        self.assertIsNone(add((TOP, 1), (1, 1)))
        self.assertIsNone(add((TOP, 1), (1, 2)))

    def test_n1_difference_at_the_bound(self):
        self.assertEqual(subtract((1 - TOP, 1), (1, 1)), (-TOP, 1))
        self.assertIsNone(subtract((-TOP, 1), (1, 1)))

    def test_n1_greater_numbers_on_the_way(self):
        self.assertEqual(multiply((TOP, 1), (1, TOP)), (1, 1))
        self.assertEqual(add((1, TOP), (-1, TOP)), (0, 1))
        self.assertEqual(divide((TOP, 1), (TOP, 1)), (1, 1))

    def test_n1_denominator_that_is_too_great(self):
        self.assertIsNone(multiply((1, TOP), (1, 2)))
        self.assertIsNone(divide((1, TOP), (2, 1)))
        self.assertEqual(multiply((1, TOP // 2), (1, 2)), (1, TOP))

    def test_n1_quotient_of_a_negative_number(self):
        self.assertEqual(divide((3, 2), (-1, 4)), (-6, 1))
        self.assertEqual(divide((-3, 2), (-1, 4)), (6, 1))
        self.assertEqual(divide((0, 1), (-1, 4)), (0, 1))

    def test_less(self):
        for x, y in itertools.product(EDGES, EDGES):
            self.assertIs(less(x, y), plain(x) < plain(y), (x, y))


if __name__ == "__main__":
    unittest.main()
