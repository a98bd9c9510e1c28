"""A desk that keeps crates and ways by names and answers rows."""

from traymap.alike import parting
from traymap.counting import ways_many
from traymap.errors import NoName, NoRow
from traymap.fillings import how_many
from traymap.reach import one_to_one, onto
from traymap.rows import read_row
from traymap.texts import number_in, read_crate, read_way, show_crate, show_pair, show_way
from traymap.ways import after

CRATE = "crate"
WAY = "way"


def kept_as(sort, kept, name):
    """Tell what is kept by the name, refused where that is nothing of this sort."""
    if name not in kept or kept[name][0] != sort:
        raise NoName("nothing of this sort has this name")
    return kept[name][1]


def answer_crate(kept, names, text):
    """Keep the crate that the text writes."""
    kept[names[0]] = (CRATE, read_crate(text))
    return "ok"


def answer_way(kept, names, text):
    """Keep the way that the text writes, with its crates: their names may be given to others later."""
    one, other = kept_as(CRATE, kept, names[1]), kept_as(CRATE, kept, names[2])
    kept[names[0]] = (WAY, (one, other, read_way(one, other, text)))
    return "ok"


def answer_many(kept, names, text):
    """Tell how many fillings of so many things a crate has."""
    return str(how_many(kept_as(CRATE, kept, names[0]), number_in(text)))


def answer_ways(kept, names, text):
    """Tell how many ways lead from one crate to another."""
    return str(ways_many(kept_as(CRATE, kept, names[0]), kept_as(CRATE, kept, names[1])))


def answer_after(kept, names, text):
    """Keep the way that does one and then another."""
    start, end, first = kept_as(WAY, kept, names[1])
    other_start, other_end, second = kept_as(WAY, kept, names[2])
    if end != other_start:
        raise NoRow("the second way leads from another crate")
    kept[names[0]] = (WAY, (start, other_end, after(first, second)))
    return "ok"


def answer_alike(kept, names, text):
    """Tell whether two ways are alike, or a filling that parts them."""
    start, end, first = kept_as(WAY, kept, names[0])
    other_start, other_end, second = kept_as(WAY, kept, names[1])
    if start != other_start or end != other_end:
        raise NoRow("the ways lead between other crates")
    filling = parting(start, first, second)
    return "alike" if filling is None else show_pair(filling)


def answer_onto(kept, names, text):
    """Tell whether a way is onto."""
    one, other, way = kept_as(WAY, kept, names[0])
    return "yes" if onto(one, other, way)[0] == "onto" else "no"


def answer_single(kept, names, text):
    """Tell whether a way is one to one."""
    one, other, way = kept_as(WAY, kept, names[0])
    return "yes" if one_to_one(one, way)[0] == "one to one" else "no"


def answer_show(kept, names, text):
    """Tell the text of what has the name, of either sort."""
    name = names[0]
    if name in kept and kept[name][0] == CRATE:
        return show_crate(kept[name][1])
    one, other, way = kept_as(WAY, kept, name)
    return show_way(way)


ANSWERS = {
    "crate": answer_crate,
    "way": answer_way,
    "many": answer_many,
    "ways": answer_ways,
    "after": answer_after,
    "alike": answer_alike,
    "onto": answer_onto,
    "single": answer_single,
    "show": answer_show,
}


class Desk:
    """By each name a pair: its sort, and a crate, or a way behind the two crates with which it was told."""

    def __init__(self):
        self.kept = {}

    def say(self, row):
        """Tell the answer to a row; what is refused changes nothing."""
        kind, names, text = read_row(row)
        answer = ANSWERS[kind]
        return answer(self.kept, names, text)
