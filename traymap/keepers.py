"""Keepers: crates with a way to put in one thing and one to make one layer of two, and their rules."""

from traymap.alike import parting
from traymap.crates import is_crate
from traymap.errors import TooBig
from traymap.layers import put, unpacked_twice
from traymap.ways import after, idle, is_way
from traymap.within import put_way, regrouped

# The crate of one tray of one well: put in a crate, or a crate put in it, is that crate.
SINGLE = (1,)


def is_keeper(thing):
    """Tell of anything whether it is a keeper."""
    if not isinstance(thing, tuple) or len(thing) != 3:
        return False
    crate, one, flat = thing
    if not is_crate(crate):
        return False
    try:
        layers = put(crate, crate)
    except TooBig:
        return False
    return is_way(SINGLE, crate, one) and is_way(layers, crate, flat)


def put_about_all(keeper):
    """Tell the way that puts in a filling as the one thing and makes it flat."""
    crate, one, flat = keeper
    return after(put_way((SINGLE, crate), (crate, crate), one, idle(crate)), flat)


def put_about_each(keeper):
    """Tell the way that puts in one thing for each thing of a filling and makes it flat."""
    crate, one, flat = keeper
    return after(put_way((crate, crate), (SINGLE, crate), idle(crate), one), flat)


def outer_first(keeper):
    """Tell the way from three layers that makes the outer two flat first, then all."""
    crate, one, flat = keeper
    layers = put(crate, crate)
    made_two = put_way((layers, crate), (crate, crate), flat, idle(crate))
    return after(after(regrouped(crate, crate, crate), made_two), flat)


def inner_first(keeper):
    """Tell the way from three layers that makes the inner two flat first, then all."""
    crate, one, flat = keeper
    layers = put(crate, crate)
    return after(put_way((crate, crate), (layers, crate), idle(crate), flat), flat)


def held(keeper):
    """Tell that the keeper holds its rules, or the least one that it doesn't and a filling that shows it."""
    crate, one, flat = keeper
    # Ahead of all rules: refused where three layers are no crate.
    three = put(crate, put(crate, crate))
    for rule, road in enumerate([put_about_all(keeper), put_about_each(keeper)]):
        filling = parting(crate, road, idle(crate))
        if filling is not None:
            return ("parts", rule, filling)
    filling = parting(three, outer_first(keeper), inner_first(keeper))
    if filling is not None:
        return ("parts", 2, unpacked_twice(crate, crate, crate, filling))
    return ("holds",)
