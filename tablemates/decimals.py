"""Number texts, and how fractions are written and shown."""

from tablemates.errors import OutOfRange
from tablemates.fractions import fraction

DIGITS = "0123456789"
MOST_BEFORE_POINT = 12
MOST_BEHIND_POINT = 6
# How often the smallest part that a decimal can tell goes into 1.
PARTS = 10 ** 6
# As many parts are more than any decimal can tell.
TOO_MANY_PARTS = 10 ** 18


def _is_digits(text):
    # The method isdigit would take digits that are not ASCII, too.
    return text != "" and all([character in DIGITS for character in text])


def read_decimal(text):
    """The fraction of a decimal, None if the string is none."""
    whole, point, rest = text.partition(".")
    if not _is_digits(whole) or len(whole) > MOST_BEFORE_POINT:
        return None
    if point == "":
        return (int(whole), 1)
    if not _is_digits(rest) or len(rest) > MOST_BEHIND_POINT:
        return None
    return fraction(int(whole + rest.ljust(MOST_BEHIND_POINT, "0")), PARTS)


def read_number(text):
    """The fraction of a number text, None if the string is none."""
    if not text.startswith("-"):
        return read_decimal(text)
    x = read_decimal(text[1:])
    return None if x is None else (-x[0], x[1])


def has_decimal(x):
    """Whether some number text stands for the fraction."""
    return PARTS % x[1] == 0 and abs(x[0]) * (PARTS // x[1]) < TOO_MANY_PARTS


def write_number(x):
    """The shortest number text of the fraction; raises OutOfRange with "x" if it has none."""
    if not has_decimal(x):
        raise OutOfRange("x")
    parts = abs(x[0]) * (PARTS // x[1])
    text = str(parts // PARTS)
    rest = parts % PARTS
    if rest > 0:
        text = text + "." + str(rest).zfill(MOST_BEHIND_POINT).rstrip("0")
    return "-" + text if x[0] < 0 else text


def show(x):
    """How the fraction is shown: its numerator, and its denominator if that is not 1."""
    if x[1] == 1:
        return str(x[0])
    return str(x[0]) + "/" + str(x[1])


def read_shown(text):
    """The fraction that is shown as this string, None if there is none."""
    over, bar, under = text.removeprefix("-").partition("/")
    if not _is_digits(over):
        return None
    if bar == "":
        x = (int(over), 1)
    elif _is_digits(under) and int(under) > 0:
        x = fraction(int(over), int(under))
    else:
        return None
    if text.startswith("-"):
        x = (-x[0], x[1])
    # What is not in lowest terms, -0 and zeros in front would be shown otherwise.
    return x if show(x) == text else None
