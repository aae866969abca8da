"""Formulas, trees and edits that several tests use; none of this is a test."""

WORDS = ("ab", "total", "abcdefgh", "sums")
NUMBERS = ("0", "1", "2.5", "0.125", "12", "999999999999.999999", "007.50")


def address(chance, rows, columns):
    letters = "ABCDEFGHIJKLMNOPQRSTUVWXYZ"
    return letters[chance.randrange(columns)] + str(chance.randint(1, rows))


def area(chance, rows, columns):
    """The tokens of a random area."""
    kind = chance.randrange(4)
    if kind == 0:
        return ["gone"]
    if kind == 1:
        return [chance.choice(WORDS)]
    if kind == 2:
        return [address(chance, rows, columns)]
    return [address(chance, rows, columns), ":", address(chance, rows, columns)]


def primary(chance, rows, columns, deep):
    kind = chance.randrange(6 if deep > 0 else 4)
    if kind == 0:
        return [chance.choice(NUMBERS)]
    if kind == 1:
        return [address(chance, rows, columns)]
    if kind == 2:
        return ["gone"]
    if kind == 3:
        found = [chance.choice(("sum", "count", "min", "max")), "("] + area(chance, rows, columns)
        for _ in range(chance.randrange(3)):
            found += [","] + area(chance, rows, columns)
        return found + [")"]
    return ["("] + formula(chance, rows, columns, deep - 1) + [")"]


def formula(chance, rows, columns, deep):
    """The tokens of a random formula with at most so many brackets in one another."""
    found = []
    for at in range(chance.choice((1, 1, 2, 2, 3))):
        if at > 0:
            found.append(chance.choice("+-*/"))
        if chance.randrange(4) == 0:
            found.append("-")
        found += primary(chance, rows, columns, deep)
    return found


def spelled(chance, strings):
    """The tokens as one string, with spaces between some of them."""
    text = ""
    for string in strings:
        text += chance.choice(("", " ", " ", "  "))
        if text != "" and text[-1].isalnum() and string[0].isalnum():
            text += " "
        text += string
    return text + chance.choice(("", " "))


def short_formula(chance, rows, columns):
    """A random string that is read as a formula of at most 30 tokens."""
    while True:
        found = formula(chance, rows, columns, 3)
        if len(found) <= 30:
            return spelled(chance, found)


def kept_line(chance):
    return chance.choice(((0, 1), (0, 8), (1, 1), (4, 2), (3, 200), (2, 100000)))


def kept_lines(chance, many):
    return tuple(kept_line(chance) for _ in range(many))


def kept_area(chance):
    return chance.choice((("gone",), ("name", chance.choice(WORDS)), ("block",) + kept_lines(chance, 4)))


def kept_fraction(chance):
    return chance.choice(((0, 1), (1, 2), (-3, 2), (10 ** 18 - 1, 10 ** 6), (-10 ** 18, 1), (63, 1), (-64, 1)))


def kept_tree(chance, deep):
    kind = chance.randrange(6 if deep > 0 else 4)
    if kind == 0:
        return ("num", kept_fraction(chance))
    if kind == 1:
        return ("cell",) + kept_lines(chance, 2)
    if kind == 2:
        return ("gone",)
    if kind == 3:
        name = chance.choice(("sum", "count", "min", "max"))
        return ("call", name, tuple(kept_area(chance) for _ in range(chance.randint(1, 3))))
    if kind == 4:
        return ("neg", kept_tree(chance, deep - 1))
    return ("op", chance.choice("+-*/"), kept_tree(chance, deep - 1), kept_tree(chance, deep - 1))


def kept_content(chance):
    return chance.choice((
        ("blank",),
        ("text", chance.choice(("a", "A text!", "~" * 60, " 12", "=\"&'"))),
        ("number", kept_fraction(chance)),
        ("formula", kept_tree(chance, 3)),
    ))


def action(chance, number):
    """A random action, of the shape of [e2], for the edit of some person with this number."""
    axis = chance.choice(("row", "column"))
    kind = chance.randrange(5 if number > 1 else 4)
    if kind == 0:
        sides = (None, kept_line(chance), kept_line(chance))
        return ("insert", axis, chance.choice(sides), chance.choice(sides))
    if kind == 1:
        return ("delete", axis, kept_line(chance))
    if kind == 2:
        cells = [kept_lines(chance, 2) + (kept_content(chance),) for _ in range(chance.randrange(4))]
        return ("write", tuple(cells))
    if kind == 3:
        return ("name", chance.choice(WORDS), tuple(kept_lines(chance, 4) for _ in range(chance.randrange(5))))
    return ("undo", chance.randint(1, number - 1))


def edits(chance, many):
    """A closed list of random edits, made on four copies that take from one another now and then."""
    made = {}
    held = {person: [0, 0, 0, 0] for person in (1, 2, 3, 4)}
    for _ in range(many):
        person = chance.choice((1, 2, 3, 4))
        if chance.randrange(2) == 0:
            other = chance.choice((1, 2, 3, 4))
            held[person] = [max(pair) for pair in zip(held[person], held[other])]
        seen = tuple(held[person])
        number = seen[person - 1] + 1
        made[(person, number)] = ((person, number), seen, action(chance, number))
        held[person][person - 1] = number
    found = list(made.values())
    chance.shuffle(found)
    return found
