"""A way read off what comes of the plain fillings."""

from traymap.errors import NoWay
from traymap.ways import is_table


def read_off(one, other, told):
    """Tell the way by which these fillings of the other crate come of the plain ones of one."""
    # A plain filling has in each well that well's number: so what comes of it is the way's pair.
    way = tuple(told)
    if not is_table(one, other, way):
        raise NoWay("no way makes these of the plain fillings")
    return way
