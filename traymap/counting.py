"""How many ways lead from a crate to another one, and their numbers."""

from traymap.errors import NoNumber
from traymap.fillings import how_many, how_many_of_tray


def ways_many(one, other):
    """Tell how many ways lead from the one crate to the other."""
    many = 1
    for wells in one:
        many = many * how_many(other, wells)
    return many


def things_at(wells, number, place):
    """Tell the tuple at that place of those of so many things below the number, as they rise."""
    things = []
    for well in range(wells):
        place, thing = divmod(place, number)
        things.append(thing)
    return tuple(things[::-1])


def filling_at(crate, number, place):
    """Tell the filling at that place of those of the crate with things below the number."""
    tray = 0
    while place >= how_many_of_tray(crate[tray], number):
        place = place - how_many_of_tray(crate[tray], number)
        tray = tray + 1
    return (tray, things_at(crate[tray], number, place))


def place_of(crate, number, filling):
    """Tell the place of a filling among those of the crate with things below the number."""
    tray, things = filling
    place = 0
    for thing in things:
        place = place * number + thing
    return how_many(crate[:tray], number) + place


def way_at(one, other, number):
    """Tell the way that has this number among those from the one crate to the other."""
    if not 0 <= number < ways_many(one, other):
        raise NoNumber("no way has this number")
    pairs = []
    # From the last tray on: its pair changes from each number to the next.
    for wells in one[::-1]:
        number, place = divmod(number, how_many(other, wells))
        pairs.append(filling_at(other, wells, place))
    return tuple(pairs[::-1])


def number_of(one, other, way):
    """Tell the number of a way among those from the one crate to the other."""
    number = 0
    for wells, pair in zip(one, way):
        number = number * how_many(other, wells) + place_of(other, wells, pair)
    return number
