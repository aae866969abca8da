"""Formulas that several tests use; none of this is a test."""

WORDS = ("ab", "total", "abcdefgh", "sums")
NUMBERS = ("0", "1", "2.5", "0.125", "12", "999999999999.999999", "007.50")


def address(chance, rows, columns):
    letters = "ABCDEFGHIJKLMNOPQRSTUVWXYZ"
    return letters[chance.randrange(columns)] + str(chance.randint(1, rows))


def area(chance, rows, columns):
    """The tokens of a random area."""
    kind = chance.randrange(4)
    if kind == 0:
        return ["gone"]
    if kind == 1:
        return [chance.choice(WORDS)]
    if kind == 2:
        return [address(chance, rows, columns)]
    return [address(chance, rows, columns), ":", address(chance, rows, columns)]


def primary(chance, rows, columns, deep):
    kind = chance.randrange(6 if deep > 0 else 4)
    if kind == 0:
        return [chance.choice(NUMBERS)]
    if kind == 1:
        return [address(chance, rows, columns)]
    if kind == 2:
        return ["gone"]
    if kind == 3:
        found = [chance.choice(("sum", "count", "min", "max")), "("] + area(chance, rows, columns)
        for _ in range(chance.randrange(3)):
            found += [","] + area(chance, rows, columns)
        return found + [")"]
    return ["("] + formula(chance, rows, columns, deep - 1) + [")"]


def formula(chance, rows, columns, deep):
    """The tokens of a random formula with at most so many brackets in one another."""
    found = []
    for at in range(chance.choice((1, 1, 2, 2, 3))):
        if at > 0:
            found.append(chance.choice("+-*/"))
        if chance.randrange(4) == 0:
            found.append("-")
        found += primary(chance, rows, columns, deep)
    return found


def spelled(chance, strings):
    """The tokens as one string, with spaces between some of them."""
    text = ""
    for string in strings:
        text += chance.choice(("", " ", " ", "  "))
        if text != "" and text[-1].isalnum() and string[0].isalnum():
            text += " "
        text += string
    return text + chance.choice(("", " "))


def short_formula(chance, rows, columns):
    """A random string that is read as a formula of at most 30 tokens."""
    while True:
        found = formula(chance, rows, columns, 3)
        if len(found) <= 30:
            return spelled(chance, found)
