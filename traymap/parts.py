"""The parts of a way: one that keeps trays, and one behind it that keeps wells."""

from traymap.ways import idle


def keeps_trays(way):
    """Tell whether each tray leads to the tray of its own number."""
    return all([target == tray for tray, (target, wells) in enumerate(way)])


def keeps_wells(one, way):
    """Tell whether each tray of the crate one takes its wells in order, each once."""
    return all([taken == wells for (target, taken), (tray, wells) in zip(way, idle(one))])


def parts(one, other, way):
    """Tell the crate between, the way to it that keeps trays, and the way from it that keeps wells."""
    # The trays between have the wells of those to which the way leads: so the second part keeps them all.
    middle = tuple([other[target] for target, wells in way])
    first = tuple([(tray, wells) for tray, (target, wells) in enumerate(way)])
    second = tuple([(target, wells) for (target, taken), (tray, wells) in zip(way, idle(middle))])
    return (middle, first, second)
