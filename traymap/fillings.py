"""How many fillings a crate has, all of them, and the plain ones."""

from traymap.errors import TooMany

MOST_FILLINGS = 2000


def how_many_of_tray(wells, number):
    """Tell how many fillings a tray with so many wells has of so many things."""
    # Below nought there are no things: so this counts just what all_fillings lists.
    choices = max(0, number)
    many = 1
    for well in range(wells):
        many = many * choices
    return many


def how_many(crate, number):
    """Tell how many fillings the crate has of so many unlike things."""
    return sum([how_many_of_tray(wells, number) for wells in crate])


def rising_things(wells, number):
    """Tell all tuples of so many things below the number, as they rise."""
    rows = [()]
    for well in range(wells):
        rows = [row + (thing,) for row in rows for thing in range(number)]
    return rows


def all_fillings(crate, number):
    """Tell all fillings of the crate with things 0, 1 .. below the number, in order."""
    # Counted first: the list itself could be too long to be made.
    if how_many(crate, number) > MOST_FILLINGS:
        raise TooMany("more fillings than a list may have")
    fillings = []
    for tray, wells in enumerate(crate):
        for things in rising_things(wells, number):
            fillings.append((tray, things))
    return fillings


def plain(crate, tray):
    """Tell the filling of the tray that has in each well that well's number."""
    return (tray, tuple(range(crate[tray])))


def marked(crate, tray, wells):
    """Tell the filling of the tray that has 1 in each of these wells and 0 in each other one."""
    return (tray, tuple([1 if well in wells else 0 for well in range(crate[tray])]))
