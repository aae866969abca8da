"""Fractions: tuples (n, d) of integers in lowest terms, d above 0."""

from math import gcd

LIMIT = 10 ** 18


def fraction(n, d):
    """The fraction n / d in lowest terms; d is not 0."""
    common = gcd(n, d)
    if d < 0:
        common = -common
    return (n // common, d // common)


def in_range(x):
    """Whether the program calculates with this fraction."""
    return -LIMIT <= x[0] <= LIMIT and x[1] <= LIMIT


def _result(n, d):
    x = fraction(n, d)
    return x if in_range(x) else None


def add(x, y):
    """The exact sum, None if it is not in range."""
    return _result(x[0] * y[1] + y[0] * x[1], x[1] * y[1])


def subtract(x, y):
    """The exact difference, None if it is not in range."""
    return _result(x[0] * y[1] - y[0] * x[1], x[1] * y[1])


def multiply(x, y):
    """The exact product, None if it is not in range."""
    return _result(x[0] * y[0], x[1] * y[1])


def divide(x, y):
    """The exact quotient, None if it is not in range; y is not 0."""
    return _result(x[0] * y[1], x[1] * y[0])


def less(x, y):
    """Whether x is below y."""
    return x[0] * y[1] < y[0] * x[1]
