"""One crate put in another one, its trays as rows, and fillings packed and unpacked."""

from traymap.counting import filling_at, place_of
from traymap.crates import MOST_TRAYS, bounded
from traymap.errors import TooBig
from traymap.fillings import all_fillings, how_many


def put(outer, inner):
    """Tell the crate with a tray for each tray of the outer one with inner trays in its wells."""
    # Counted first: the rows could be too many to be listed.
    if how_many(outer, len(inner)) > MOST_TRAYS:
        raise TooBig("more trays than a crate has")
    # The rows are the outer crate's fillings whose things are trays of the inner one.
    rows = all_fillings(outer, len(inner))
    return bounded(tuple([sum([inner[tray] for tray in row]) for source, row in rows]))


def tray_rows(outer, inner):
    """Tell the pairs (s, row) for which the trays of the crate put together stand, in order."""
    # Asked for its refusals: both are refused alike.
    put(outer, inner)
    return all_fillings(outer, len(inner))


def packed(outer, inner, filling):
    """Tell the filling of the crate put together, of an outer one whose things are inner ones."""
    source, fillings = filling
    row = tuple([tray for tray, things in fillings])
    place = place_of(outer, len(inner), (source, row))
    return (place, tuple([thing for tray, things in fillings for thing in things]))


def unpacked(outer, inner, filling):
    """Tell the outer filling whose things are inner ones, of one of the crate put together."""
    place, things = filling
    source, row = filling_at(outer, len(inner), place)
    fillings = []
    for tray in row:
        fillings.append((tray, things[:inner[tray]]))
        things = things[inner[tray]:]
    return (source, tuple(fillings))


def unpacked_twice(first, second, third, filling):
    """Tell the three layers of a filling of put(first, put(second, third))."""
    source, fillings = unpacked(first, put(second, third), filling)
    return (source, tuple([unpacked(second, third, thing) for thing in fillings]))
