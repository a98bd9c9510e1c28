"""Whether a way is onto, and whether it is one to one."""

from traymap.fillings import marked, plain


def filled_from(way, tray):
    """Tell a tray that leads to this one by wells without one twice, None where none does."""
    for source, (target, wells) in enumerate(way):
        if target == tray and len(set(wells)) == len(wells):
            return source
    return None


def onto(one, other, way):
    """Tell from which trays each tray of the other crate is filled, or a filling that comes of none."""
    trays = []
    for tray in range(len(other)):
        source = filled_from(way, tray)
        if source is None:
            # No thing of a plain filling is like another, so none of its wells is taken twice.
            return ("missed", plain(other, tray))
        trays.append(source)
    return ("onto", tuple(trays))


def one_to_one(one, way):
    """Tell that no two unlike fillings become one, or two that do."""
    sources = {}
    for tray, (target, wells) in enumerate(way):
        blank = marked(one, tray, ())
        if target in sources:
            return ("merged", marked(one, sources[target], ()), blank)
        sources[target] = tray
        left = [well for well in range(one[tray]) if well not in wells]
        if left:
            return ("merged", blank, marked(one, tray, left))
    return ("one to one",)
