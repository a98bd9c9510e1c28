"""What a crate is, and what a filling of a crate is."""

MOST_TRAYS = 60
MOST_WELLS = 12


def is_whole(thing):
    """Tell whether it is a whole number."""
    # A truth is an int to Python, but no whole number.
    return isinstance(thing, int) and not isinstance(thing, bool)


def is_pair(thing):
    """Tell whether it is a tuple of two."""
    return isinstance(thing, tuple) and len(thing) == 2


def is_tray(thing):
    """Tell whether it is a number of wells that a tray may have."""
    return is_whole(thing) and 0 <= thing <= MOST_WELLS


def is_crate(thing):
    """Tell of anything whether it is a crate."""
    if not isinstance(thing, tuple) or len(thing) > MOST_TRAYS:
        return False
    return all(is_tray(wells) for wells in thing)


def is_filling(crate, thing):
    """Tell of anything whether it is a filling of the crate."""
    if not is_crate(crate) or not is_pair(thing):
        return False
    tray, things = thing
    # Ahead of the index: one below nought would count from the end.
    if not is_whole(tray) or not 0 <= tray < len(crate):
        return False
    return isinstance(things, tuple) and len(things) == crate[tray]
