package tests

import (
	"slices"
	"testing"

	"loop.example/g00610/impl"
)

const mostInEveryOrder = 5

// severalOrders gives each order of few Events; of more, the list from each of
// its Events on, round about, and that backwards.
func severalOrders(l []impl.Event, with func(l []impl.Event)) {
	if len(l) <= mostInEveryOrder {
		everyOrder(nil, l, with)
		return
	}
	for at := range min(len(l), mostEvents+1) {
		turned := slices.Concat(l[at:], l[:at])
		with(turned)
		slices.Reverse(turned)
		with(turned)
	}
}

// checkFact asks a function of chapter 14, in several orders, since the order
// of the list is nothing to a fact, and twice each.
func checkFact[A comparable](t *testing.T, name string, of func(l []impl.Event) A, l []impl.Event, want A) {
	t.Helper()
	severalOrders(l, func(l []impl.Event) {
		for range 2 {
			if got := of(l); got != want {
				t.Errorf("%s, %+v: %v", name, shortStory(l), got)
			}
		}
	})
}

func checkNothingTwice(t *testing.T, name string, want bool, l ...impl.Event) {
	t.Helper()
	checkFact(t, "NothingTwice, "+name, impl.NothingTwice, l, want)
}

// facts are all that chapter 14 tells of a story.
type facts struct {
	nothingTwice, inOrder, emptyHeld bool
	busy                             int64
}

// noFacts is what is told of what is no story.
func noFacts() facts { return facts{busy: -1} }

func allHeld(busy int64) facts { return facts{true, true, true, busy} }

func factsOf(l []impl.Event) facts {
	return facts{impl.NothingTwice(l), impl.InOrder(l), impl.EmptyHeld(l), impl.Busy(l)}
}

func checkFacts(t *testing.T, name string, want facts, l ...impl.Event) {
	t.Helper()
	checkFact(t, name, factsOf, l, want)
}

func TestFactsOfNoEvents(t *testing.T) {
	for _, l := range [][]impl.Event{nil, {}, rightEvents()[:0], wrongEvents()[:0]} {
		if got := factsOf(l); got != allHeld(0) {
			t.Errorf("no Events: %v", got)
		}
	}
}

func TestFactsOfOneEvent(t *testing.T) {
	for _, e := range rightEvents() {
		want := allHeld(1)
		want.nothingTwice = e.Reply != impl.ReGot
		checkFacts(t, "one", want, e)
	}
	for _, value := range rightValues() {
		checkFacts(t, "put", allHeld(1), putDone(value))
		checkFacts(t, "no room", allHeld(1), putFull(value))
		checkFacts(t, "got", facts{false, true, true, 1}, gotOne(value))
	}
}

func TestNothingTwiceCounts(t *testing.T) {
	for puts := range 9 {
		for gots := range 9 {
			for _, value := range []int64{1, 7, mostValue} {
				l := slices.Concat(slices.Repeat([]impl.Event{putDone(value)}, puts), slices.Repeat([]impl.Event{gotOne(value)}, gots))
				checkFact(t, "at one time", impl.NothingTwice, atOnce(l...), gots <= puts)
				checkFact(t, "one behind the other", impl.NothingTwice, inARow(l...), gots <= puts)
			}
		}
	}
}

func TestNothingTwiceCountsEachValue(t *testing.T) {
	checkNothingTwice(t, "two Values", true, inARow(putDone(1), putDone(2), gotOne(2), gotOne(1))...)
	checkNothingTwice(t, "the one got twice", false, inARow(putDone(1), putDone(2), gotOne(2), gotOne(2))...)
	checkNothingTwice(t, "the one put twice, the other one got twice", false, inARow(putDone(1), putDone(1), putDone(2), gotOne(2), gotOne(2))...)
	checkNothingTwice(t, "one of three never put", false, inARow(putDone(1), putDone(2), gotOne(1), gotOne(3))...)
	checkNothingTwice(t, "never put", false, gotOne(5))
	checkNothingTwice(t, "another one put", false, atOnce(putDone(4), gotOne(5))...)
	checkNothingTwice(t, "put, and nobody got it", true, inARow(putDone(4), putDone(5), putDone(4))...)
	checkNothingTwice(t, "nobody got one of two", true, inARow(putDone(4), putDone(5), gotOne(5), gotNone())...)
}

func TestNothingTwiceWhereThereWasNoRoom(t *testing.T) {
	for _, value := range rightValues() {
		checkNothingTwice(t, "no room", false, inARow(putFull(value), gotOne(value))...)
		checkNothingTwice(t, "no room, no room, none", false, inARow(putFull(value), putFull(value), gotNone(), gotOne(value))...)
		checkNothingTwice(t, "no room, then put", true, inARow(putFull(value), putDone(value), gotOne(value))...)
		checkNothingTwice(t, "no room once of twice", false, inARow(putFull(value), putDone(value), gotOne(value), gotOne(value))...)
	}
	full, take := timed(1, 2, putFull(1)), timed(3, 4, gotOne(1))
	checkNothingTwice(t, "no room in time, put too late", false, full, take, timed(5, 6, putDone(1)))
	checkNothingTwice(t, "no room in time, put beside", true, full, take, timed(4, 6, putDone(1)))
}

func TestNothingTwiceAsksTimes(t *testing.T) {
	put := timed(5, 7, putDone(3))
	for begin := range int64(12) {
		for end := begin; end < 12; end++ {
			checkNothingTwice(t, "one put", end >= 5, put, timed(begin, end, gotOne(3)))
		}
	}
	checkNothingTwice(t, "one before", false, put, timed(1, 4, gotOne(3)))
	checkNothingTwice(t, "touches", true, put, timed(1, 5, gotOne(3)))
	checkNothingTwice(t, "overlaps", true, put, timed(1, 6, gotOne(3)))
	checkNothingTwice(t, "around it", true, put, timed(1, 9, gotOne(3)))
	checkNothingTwice(t, "begins before 0 is over", true, timed(0, 0, putDone(3)), timed(0, 0, gotOne(3)))
	checkNothingTwice(t, "the last moment", true, timed(mostClock, mostClock, putDone(3)), timed(0, mostClock, gotOne(3)))
	checkNothingTwice(t, "the last moment but one", false, timed(mostClock, mostClock, putDone(3)), timed(0, mostClock-1, gotOne(3)))
}

func TestNothingTwiceOfSeveralPuts(t *testing.T) {
	late := []impl.Event{timed(7, 9, putDone(3)), timed(8, 8, putDone(3)), timed(20, 21, putDone(3))}
	take := timed(2, 6, gotOne(3))
	checkNothingTwice(t, "all behind", false, append(late, take)...)
	for _, put := range []impl.Event{timed(0, 1, putDone(3)), timed(3, 4, putDone(3)), timed(6, 30, putDone(3))} {
		checkNothingTwice(t, "one not behind", true, append(late, take, put)...)
	}
	checkNothingTwice(t, "another one's not behind", false, append(late, take, timed(0, 1, putDone(4)))...)
	checkNothingTwice(t, "no room, not behind", false, append(late, take, timed(0, 1, putFull(3)))...)
}

// One put that is not behind is enough for each of the takes, since how many
// there are is counted whenever they were.
func TestNothingTwiceOfSeveralTakes(t *testing.T) {
	puts := []impl.Event{timed(1, 2, putDone(3)), timed(9, 9, putDone(3))}
	early := []impl.Event{timed(3, 4, gotOne(3)), timed(5, 6, gotOne(3))}
	checkNothingTwice(t, "both ahead of the one, neither of the other", true, append(puts, early...)...)
	checkNothingTwice(t, "one ahead of both", false, append(puts, timed(0, 0, gotOne(3)), timed(10, 11, gotOne(3)))...)
	checkNothingTwice(t, "one ahead of both, the other never", false, append(puts, timed(0, 0, gotOne(3)))...)
}

// Whoever it was: also one who got what he put himself.
func TestFactsWhoeverItWas(t *testing.T) {
	for who := range int64(mostHands) {
		l := inARow(putDone(1), putDone(2), gotOne(2), gotNone(), gotOne(1))
		for n := range l {
			l[n].Who = who
		}
		checkFacts(t, "one hand, one behind the other", facts{true, false, false, 1}, l...)
		for n := range l {
			l[n].Begin, l[n].End = 4, 4
		}
		checkFacts(t, "one hand, at one time", allHeld(5), l...)
	}
}

func sixteenInARow() []impl.Event {
	row := []impl.Event{gotNone(), putFull(99)}
	for value := range int64(5) {
		row = append(row, putDone(value+1), gotOne(value+1))
	}
	return inARow(append(row, putDone(6), putDone(7), gotOne(6), gotOne(7))...)
}

func TestFactsCountEvents(t *testing.T) {
	l := sixteenInARow()
	for n := range l {
		checkFacts(t, "part of them", allHeld(1), l[:n+1]...)
	}
	if len(l) != mostEvents {
		t.Errorf("%d Events", len(l))
	}
	checkFacts(t, "17", noFacts(), append(l, putFull(5))...)
	for n := range 40 {
		for _, e := range []impl.Event{putDone(1), putFull(2), gotNone()} {
			want := allHeld(int64(n))
			if n > mostEvents {
				want = noFacts()
			}
			checkFacts(t, "so many", want, slices.Repeat([]impl.Event{timed(3, 3, e)}, n)...)
		}
	}
	if got := factsOf(slices.Repeat(rightEvents(), 500)); got != noFacts() {
		t.Errorf("very many: %v", got)
	}
}

// But for the wrong one, each of the facts would hold, also since a Value is
// there twice.
func TestFactsOfNoStory(t *testing.T) {
	for n := range mostEvents + 2 {
		for _, base := range []impl.Event{putFull(6), putDone(6)} {
			l := slices.Repeat([]impl.Event{timed(0, mostClock, base)}, n)
			for _, e := range wrongEvents() {
				if got := factsOf(append(l, e)); got != noFacts() {
					t.Errorf("%d and %+v: %v", n, e, got)
				}
			}
		}
	}
	for _, e := range wrongEvents() {
		checkFacts(t, "one wrong", noFacts(), e)
		checkFacts(t, "one wrong beside others", noFacts(), append(inARow(putDone(1), gotOne(1), gotNone()), e)...)
		checkFacts(t, "one wrong, one twice", noFacts(), append(inARow(putDone(1), putDone(1), gotOne(1)), e)...)
		checkFacts(t, "one wrong, 15 that are right", noFacts(), append(sixteenInARow()[1:], e)...)
	}
	checkFacts(t, "all wrong", noFacts(), wrongEvents()...)
	checkFacts(t, "no Event", noFacts(), impl.Event{})
}

func storiesForFacts() map[string][]impl.Event {
	all := storiesForOrders()
	all["sixteen"] = sixteenInARow()
	all["out of order"] = inARow(putDone(1), putDone(2), gotOne(2), gotNone(), gotOne(1))
	all["one twice"] = inARow(putDone(1), putDone(2), putDone(1), gotOne(2), gotNone(), gotOne(1))
	all["seventeen"] = append(sixteenInARow(), putFull(5))
	return all
}

func TestFactsLeaveTheirArgument(t *testing.T) {
	for name, given := range storiesForFacts() {
		for room := range 4 {
			whole, l := partOfStory(given, room)
			kept := slices.Clone(whole)
			want := factsOf(slices.Clone(given))
			for range 3 {
				if got := factsOf(l); got != want {
					t.Errorf("%s: %v, not %v", name, got, want)
				}
				checkEvents(t, name+", the argument", whole, kept)
			}
		}
	}
}
