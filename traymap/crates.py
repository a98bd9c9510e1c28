"""What a crate is, and what a filling of a crate is."""

from traymap.errors import TooBig

MOST_TRAYS = 60
MOST_WELLS = 12


def is_whole(thing):
    """Tell whether it is a whole number."""
    # A truth is an int to Python, but no whole number.
    return isinstance(thing, int) and not isinstance(thing, bool)


def is_below(thing, bound):
    """Tell whether it is a whole number from 0 on and below the bound."""
    return is_whole(thing) and 0 <= thing < bound


def is_pair(thing):
    """Tell whether it is a tuple of two."""
    return isinstance(thing, tuple) and len(thing) == 2


def is_crate(thing):
    """Tell of anything whether it is a crate."""
    if not isinstance(thing, tuple) or len(thing) > MOST_TRAYS:
        return False
    return all([is_below(wells, MOST_WELLS + 1) for wells in thing])


def bounded(thing):
    """Tell the crate again, refused where it is none by the bounds."""
    if not is_crate(thing):
        raise TooBig("more trays or wells than a crate has")
    return thing


def fits(crate, thing):
    """Tell of anything whether it is a tray of the crate with a thing for each well."""
    if not is_pair(thing):
        return False
    tray, things = thing
    # Ahead of the index: one below nought would count from the end.
    if not is_below(tray, len(crate)):
        return False
    return isinstance(things, tuple) and len(things) == crate[tray]


def is_filling(crate, thing):
    """Tell of anything whether it is a filling of the crate."""
    return is_crate(crate) and fits(crate, thing)
