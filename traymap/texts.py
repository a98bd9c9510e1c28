"""Crates and ways written as texts and read from them."""

from traymap.crates import is_crate
from traymap.errors import NoText
from traymap.ways import is_way

EMPTY = "-"
MOST_FIGURES = 4


def number_in(word):
    """Tell the number that the word writes, None where it writes none of at most four figures."""
    # Ahead of int, which takes other signs too, and fails at some thousands of figures.
    if len(word) > MOST_FIGURES or not word.isascii() or not word.isdigit():
        return None
    number = int(word)
    # Written again, it has no 0 ahead.
    return number if str(number) == word else None


def show_words(words):
    """Tell the text of words parted by single blanks, or of none."""
    return " ".join(words) if words else EMPTY


def read_words(text):
    """Tell the words that a text parts by single blanks, or none."""
    return [] if text == EMPTY else text.split(" ")


def show_crate(crate):
    """Tell the text that writes the crate."""
    return show_words([str(wells) for wells in crate])


def show_pair(pair):
    """Tell the text of a tray and of numbers in its wells."""
    tray, numbers = pair
    return f"{tray}:" + ",".join([str(number) for number in numbers])


def show_way(way):
    """Tell the text that writes the way."""
    return show_words([show_pair(pair) for pair in way])


def read_crate(text):
    """Tell the crate that the text writes, refused where it writes none."""
    # A word that is no number is told as None here: so no crate comes of it.
    crate = tuple([number_in(word) for word in read_words(text)])
    if not is_crate(crate):
        raise NoText("the text writes no crate")
    return crate


def read_pair(word):
    """Tell the pair that the word writes, with None for what is no number, or None for all of it."""
    tray, colon, wells = word.partition(":")
    if not colon:
        return None
    words = wells.split(",") if wells else []
    return (number_in(tray), tuple([number_in(well) for well in words]))


def read_way(one, other, text):
    """Tell the way from the one crate to the other that the text writes, refused where it writes none."""
    way = tuple([read_pair(word) for word in read_words(text)])
    if not is_way(one, other, way):
        raise NoText("the text writes no way between these crates")
    return way
