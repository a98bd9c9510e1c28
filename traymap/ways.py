"""What a way is, what it makes of a filling, the idle way, and one way after another."""

from traymap.crates import fits, is_below, is_crate
from traymap.fillings import plain


def leads(wells, other, thing):
    """Tell of anything whether it leads from a tray with so many wells to one of the other crate."""
    return fits(other, thing) and all([is_below(well, wells) for well in thing[1]])


def is_table(one, other, thing):
    """Tell of anything whether it has a pair for each tray of one, each leading to the other."""
    if not isinstance(thing, tuple) or len(thing) != len(one):
        return False
    return all([leads(wells, other, pair) for wells, pair in zip(one, thing)])


def is_way(one, other, thing):
    """Tell of anything whether it is a way from the one crate to the other."""
    return is_crate(one) and is_crate(other) and is_table(one, other, thing)


def turned(way, filling):
    """Tell the filling that the way makes of this one."""
    source, things = filling
    tray, wells = way[source]
    return (tray, tuple([things[well] for well in wells]))


def idle(crate):
    """Tell the way that leaves each filling of the crate as it is."""
    return tuple([plain(crate, tray) for tray in range(len(crate))])


def after(first, second):
    """Tell the way that does the first and then the second."""
    # A pair of the first is what it makes of a plain filling: so turning it does both.
    return tuple([turned(second, pair) for pair in first])
