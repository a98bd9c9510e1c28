"""A crate raised to another one, its power, and the ways that go out of products into it."""

from traymap.counting import number_of, way_at, ways_many
from traymap.crates import MOST_TRAYS, bounded
from traymap.errors import TooBig
from traymap.ways import idle

OPEN_WELL = -1


def widened(lower):
    """Tell the lower crate with a well more in each tray."""
    # A row is a way from it to the upper crate, its wells written one lower: so the first one is open.
    return tuple([wells + 1 for wells in lower])


def renumbered(way, by):
    """Tell the pairs again, their wells written higher by so much."""
    return tuple([(tray, tuple([well + by for well in wells])) for tray, wells in way])


def row_at(upper, lower, place):
    """Tell the power's row at that place."""
    return renumbered(way_at(widened(lower), upper, place), OPEN_WELL)


def place_of_row(upper, lower, row):
    """Tell the place of a row among the power's."""
    return number_of(widened(lower), upper, renumbered(row, -OPEN_WELL))


def rows_in_order(upper, lower):
    """Tell all rows of the power, refused where they are more than a crate has trays."""
    # Counted first: they could be too many to be listed.
    many = ways_many(widened(lower), upper)
    if many > MOST_TRAYS:
        raise TooBig("more trays than a crate has")
    return [row_at(upper, lower, place) for place in range(many)]


def power(upper, lower):
    """Tell the crate with a tray for each row, with the row's open wells."""
    rows = rows_in_order(upper, lower)
    return bounded(tuple([sum([wells.count(OPEN_WELL) for tray, wells in row]) for row in rows]))


def power_rows(upper, lower):
    """Tell the rows for which the trays of the power stand, in order."""
    # Asked for its refusals: both are refused alike.
    power(upper, lower)
    return rows_in_order(upper, lower)


def row_of(wells, pairs):
    """Tell the row of pairs that take wells of a tray with so many and, behind them, lower ones."""
    return tuple([
        (tray, tuple([well - wells if well >= wells else OPEN_WELL for well in taken]))
        for tray, taken in pairs
    ])


def into_power(one, lower, upper, way):
    """Tell the way from one to the power, of a way from the product of one and lower to upper."""
    turns = []
    for tray, wells in enumerate(one):
        pairs = way[tray * len(lower):(tray + 1) * len(lower)]
        own = tuple([well for target, taken in pairs for well in taken if well < wells])
        turns.append((place_of_row(upper, lower, row_of(wells, pairs)), own))
    return tuple(turns)


def pairs_of(wells, row, own):
    """Tell the row's pairs with the own wells where it is open, in order, lower ones behind so many wells."""
    pairs = []
    at = 0
    for tray, places in row:
        taken = []
        for well in places:
            if well == OPEN_WELL:
                taken.append(own[at])
                at = at + 1
            else:
                taken.append(wells + well)
        pairs.append((tray, tuple(taken)))
    return pairs


def out_of_power(one, lower, upper, way):
    """Tell the way from the product of one and lower to upper, of a way from one to the power."""
    pairs = []
    for wells, (place, own) in zip(one, way):
        pairs.extend(pairs_of(wells, row_at(upper, lower, place), own))
    return tuple(pairs)


def from_power(upper, lower):
    """Tell the way from the product of the power and lower to upper."""
    crate = power(upper, lower)
    return out_of_power(crate, lower, upper, idle(crate))
