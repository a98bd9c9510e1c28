"""The rows that a desk is told, by their form alone."""

from traymap.errors import NoRow
from traymap.texts import number_in

LONGEST_NAME = 8
MOST_THINGS = 1000

# For each first word: how many names stand behind it, and what stands behind them.
FORMS = {
    "crate": (1, "text"),
    "way": (3, "text"),
    "many": (1, "number"),
    "ways": (2, "nothing"),
    "after": (3, "nothing"),
    "alike": (2, "nothing"),
    "onto": (1, "nothing"),
    "single": (1, "nothing"),
    "show": (1, "nothing"),
}


def is_name(word):
    """Tell whether the word is one to eight small letters."""
    return len(word) <= LONGEST_NAME and word.isascii() and word.isalpha() and word.islower()


def is_count(word):
    """Tell whether the word writes a number of things of which fillings are counted."""
    number = number_in(word)
    return number is not None and number <= MOST_THINGS


def ends_so(end, words):
    """Tell whether these words are such as stand behind the names."""
    if end == "text":
        return len(words) > 0
    if end == "number":
        return len(words) == 1 and is_count(words[0])
    return len(words) == 0


def read_row(row):
    """Tell the first word of a row, its names, and the text behind them; refused where it is no row."""
    words = row.split(" ") if isinstance(row, str) else []
    # A word without signs stands where a blank is at an end, or two are together.
    if not words or "" in words or words[0] not in FORMS:
        raise NoRow("no row begins or is parted so")
    many, end = FORMS[words[0]]
    names, rest = words[1:many + 1], words[many + 1:]
    if len(names) < many or not all([is_name(name) for name in names]) or not ends_so(end, rest):
        raise NoRow("no row goes on so")
    return (words[0], names, " ".join(rest))
