"""Two crates joined, and the ways into them and out of them."""

from traymap.crates import bounded
from traymap.ways import idle


def joined(one, other):
    """Tell the crate with the trays of the one, then those of the other."""
    return bounded(one + other)


def from_left(one, other):
    """Tell the way from the one crate into both joined, that keeps all wells."""
    return idle(one)


def from_right(one, other):
    """Tell the way from the other crate into both joined, that keeps all wells."""
    return tuple([(len(one) + tray, wells) for tray, wells in idle(other)])


def joined_way(way, other_way):
    """Tell the way from the joined crate that does as the way from each of both does."""
    return way + other_way
