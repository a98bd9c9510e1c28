"""Whether two ways, or two crates, are alike, and what parts them."""

from traymap.fillings import how_many, marked
from traymap.ways import idle


def parting(one, way, other_way):
    """Tell a filling of the crate one of which the ways make unlike ones, None where they are alike."""
    for tray, (pair, other_pair) in enumerate(zip(way, other_way)):
        if pair != other_pair:
            parted = [well for well, other_well in zip(pair[1], other_pair[1]) if well != other_well]
            # One well alone: the other way takes a 0 there. Where the trays differ, any filling parts.
            return marked(one, tray, parted[:1])
    return None


def trays_by_wells(crate):
    """Tell the crate's trays, those with fewer wells first."""
    return sorted(range(len(crate)), key=lambda tray: crate[tray])


def matching(one, other):
    """Tell the way that keeps all wells, between crates that differ by the order of trays alone."""
    targets = dict(zip(trays_by_wells(one), trays_by_wells(other)))
    return tuple([(targets[tray], wells) for tray, wells in idle(one)])


def differing(one, other):
    """Tell a number of things of which crates with unlike trays have unlike many fillings."""
    number = 0
    # It ends, by 12 at the latest: unlike sums of powers up to the twelfth agree at 12 numbers at most.
    while how_many(one, number) == how_many(other, number):
        number = number + 1
    return number


def crates_alike(one, other):
    """Tell two ways that undo one another, or a number of things at which the crates differ."""
    if sorted(one) != sorted(other):
        return ("unlike", differing(one, other))
    return ("alike", matching(one, other), matching(other, one))
