"""Two crates multiplied, and the ways out of them and into them."""

from traymap.crates import bounded
from traymap.ways import idle


def multiplied(one, other):
    """Tell the crate with a tray for each pair of trays, with the wells of both."""
    return bounded(tuple([wells + more for wells in one for more in other]))


def to_left(one, other):
    """Tell the way from the product to the one crate."""
    return tuple([pair for pair in idle(one) for more in other])


def to_right(one, other):
    """Tell the way from the product to the other crate."""
    # In the product the other crate's wells stand behind those of the one.
    return tuple([
        (tray, tuple([ahead + well for well in wells]))
        for ahead in one
        for tray, wells in idle(other)
    ])


def paired_way(one, other, way, other_way):
    """Tell the way to the product of one and other that does as both ways do."""
    return tuple([
        (tray * len(other) + other_tray, wells + other_wells)
        for (tray, wells), (other_tray, other_wells) in zip(way, other_way)
    ])
