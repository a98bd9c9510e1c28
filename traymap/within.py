"""Ways between crates put in one another."""

from traymap.layers import packed, put, unpacked, unpacked_twice
from traymap.ways import idle, turned


def put_way(outers, inners, way, inner_way):
    """Tell the way between the crates put together, of one between outer and one between inner ones."""
    outer, other_outer = outers
    inner, other_inner = inners
    pairs = []
    # The idle way has the plain fillings as its pairs: what comes of them is the way told.
    for filling in idle(put(outer, inner)):
        tray, fillings = turned(way, unpacked(outer, inner, filling))
        changed = tuple([turned(inner_way, thing) for thing in fillings])
        pairs.append(packed(other_outer, other_inner, (tray, changed)))
    return tuple(pairs)


def regrouped(first, second, third):
    """Tell the way from put(first, put(second, third)) to put(put(first, second), third) that moves no thing."""
    outer = put(first, second)
    pairs = []
    for filling in idle(put(first, put(second, third))):
        layers = unpacked_twice(first, second, third, filling)
        pairs.append(packed(outer, third, packed(first, second, layers)))
    return tuple(pairs)
