package tests

import (
	"slices"
	"testing"

	"loop.example/g00610/impl"
)

func checkInOrder(t *testing.T, name string, want bool, l ...impl.Event) {
	t.Helper()
	checkFact(t, "InOrder, "+name, impl.InOrder, l, want)
}

func checkEmptyHeld(t *testing.T, name string, want bool, l ...impl.Event) {
	t.Helper()
	checkFact(t, "EmptyHeld, "+name, impl.EmptyHeld, l, want)
}

// twoPuts are the one Ahead of the other.
func twoPuts() []impl.Event {
	return []impl.Event{timed(1, 2, putDone(1)), timed(3, 4, putDone(2))}
}

func TestInOrderOfTwoPutsAndTheirTakes(t *testing.T) {
	checkInOrder(t, "in order", true, append(twoPuts(), timed(5, 6, gotOne(1)), timed(7, 8, gotOne(2)))...)
	checkInOrder(t, "out of order", false, append(twoPuts(), timed(5, 6, gotOne(2)), timed(7, 8, gotOne(1)))...)
	checkInOrder(t, "at one time", true, append(twoPuts(), timed(5, 6, gotOne(2)), timed(5, 6, gotOne(1)))...)
	checkInOrder(t, "only the first", true, append(twoPuts(), timed(5, 6, gotOne(1)))...)
	checkInOrder(t, "only the second", false, append(twoPuts(), timed(5, 6, gotOne(2)))...)
	checkInOrder(t, "neither", true, twoPuts()...)
	checkInOrder(t, "neither, another one", true, append(twoPuts(), timed(5, 6, gotOne(3)))...)
}

func TestInOrderAsksTimesOfTakes(t *testing.T) {
	second := timed(6, 8, gotOne(2))
	for begin := range int64(12) {
		for end := begin; end < 12; end++ {
			checkInOrder(t, "the first one's take", begin <= 8, append(twoPuts(), second, timed(begin, end, gotOne(1)))...)
		}
	}
	checkInOrder(t, "touches", true, append(twoPuts(), second, timed(8, 9, gotOne(1)))...)
	checkInOrder(t, "one behind", false, append(twoPuts(), second, timed(9, 9, gotOne(1)))...)
	checkInOrder(t, "the last moment", true, append(twoPuts(), timed(0, mostClock, gotOne(2)), timed(mostClock, mostClock, gotOne(1)))...)
	checkInOrder(t, "the last moment, one behind", false, append(twoPuts(), timed(0, mostClock-1, gotOne(2)), timed(mostClock, mostClock, gotOne(1)))...)
}

// No more is asked than which was got first: nothing of when it was put.
func TestInOrderOfTakesAheadOfTheirPuts(t *testing.T) {
	puts := []impl.Event{timed(11, 12, putDone(1)), timed(13, 14, putDone(2))}
	checkInOrder(t, "in order", true, append(puts, timed(5, 6, gotOne(1)), timed(7, 8, gotOne(2)))...)
	checkInOrder(t, "out of order", false, append(puts, timed(5, 6, gotOne(2)), timed(7, 8, gotOne(1)))...)
	checkInOrder(t, "only the second", false, append(puts, timed(5, 6, gotOne(2)))...)
}

func TestInOrderOfPutsOfWhichNeitherIsAhead(t *testing.T) {
	for _, puts := range [][]impl.Event{
		{timed(1, 3, putDone(1)), timed(3, 4, putDone(2))},
		{timed(1, 9, putDone(1)), timed(3, 4, putDone(2))},
		{timed(1, 3, putDone(1)), timed(1, 3, putDone(2))},
		{timed(0, 0, putDone(1)), timed(0, mostClock, putDone(2))},
	} {
		for _, value := range []int64{1, 2} {
			checkInOrder(t, "only one", true, append(puts, timed(15, 16, gotOne(value)))...)
			checkInOrder(t, "one behind the other", true, append(puts, timed(15, 16, gotOne(value)), timed(17, 18, gotOne(3-value)))...)
		}
	}
}

func TestInOrderWhereThereWasNoRoom(t *testing.T) {
	takes := []impl.Event{timed(5, 6, gotOne(2)), timed(7, 8, gotOne(1))}
	for _, takes := range [][]impl.Event{takes, takes[:1]} {
		checkInOrder(t, "both put", false, append(twoPuts(), takes...)...)
		checkInOrder(t, "the first one full", true, append(takes, timed(1, 2, putFull(1)), timed(3, 4, putDone(2)))...)
		checkInOrder(t, "the second one full", true, append(takes, timed(1, 2, putDone(1)), timed(3, 4, putFull(2)))...)
		checkInOrder(t, "both full", true, append(takes, timed(1, 2, putFull(1)), timed(3, 4, putFull(2)))...)
	}
}

func TestInOrderOfThree(t *testing.T) {
	puts := inARow(putDone(1), putDone(2), putDone(3))
	everyOrder(nil, []impl.Event{gotOne(1), gotOne(2), gotOne(3)}, func(takes []impl.Event) {
		for n := range takes {
			l := inARow(slices.Concat(puts, takes[:n+1])...)
			_, gots := inTwo(l)
			checkFact(t, "InOrder, three", impl.InOrder, l, slices.Equal(gots, oneTo(int64(n+1))))
		}
	})
	takes := []impl.Event{timed(10, 20, gotOne(1)), timed(12, 14, gotOne(2)), timed(16, 18, gotOne(3))}
	checkInOrder(t, "one all the time", true, append(puts, takes...)...)
	takes[0].Begin = 15
	checkInOrder(t, "one behind the second", false, append(puts, takes...)...)
}

// outOfOrder is neither InOrder nor EmptyHeld.
func outOfOrder() []impl.Event {
	return inARow(putDone(1), putDone(2), gotOne(2), gotNone(), gotOne(1))
}

func aValueTwice() map[string][]impl.Event {
	return map[string][]impl.Event{
		"put twice":                     {timed(1, 1, putDone(5)), timed(30, 31, putDone(5))},
		"put twice at one time":         {timed(1, 1, putDone(5)), timed(1, 1, putDone(5))},
		"got twice":                     {timed(1, 1, gotOne(5)), timed(30, 31, gotOne(5))},
		"got twice, put once":           {timed(1, 1, gotOne(5)), timed(2, 2, gotOne(5)), timed(0, 0, putDone(5))},
		"put twice, got twice":          {timed(1, 1, putDone(5)), timed(2, 2, putDone(5)), timed(3, 3, gotOne(5)), timed(4, 4, gotOne(5))},
		"got thrice":                    {gotOne(mostValue), gotOne(mostValue), gotOne(mostValue)},
		"the first one put once more":   {timed(40, 41, putDone(1))},
		"the second one put once more":  {timed(40, 41, putDone(2))},
		"the first one got once more":   {timed(40, 41, gotOne(1))},
		"the second one got once more":  {timed(40, 41, gotOne(2))},
		"the first one put before that": {timed(0, 0, putDone(1))},
		"a put thrice":                  {putDone(5), putDone(5), putDone(5)},
	}
}

// nothingTwiceBeside has no Value put twice, or got twice, since a put without
// room and a take of nothing are neither.
func nothingTwiceBeside() map[string][]impl.Event {
	return map[string][]impl.Event{
		"nothing":                   {},
		"put once, got once":        {timed(0, 0, putDone(5)), timed(20, 21, gotOne(5))},
		"no room twice":             {timed(1, 1, putFull(5)), timed(30, 31, putFull(5))},
		"no room, then put":         {timed(0, 0, putFull(5)), timed(30, 31, putDone(5))},
		"no room for the first one": {timed(30, 31, putFull(1))},
		"no room, put, got":         {timed(0, 0, putFull(5)), timed(0, 0, putDone(5)), timed(0, 9, gotOne(5)), timed(0, 0, putFull(5))},
		"none twice":                {timed(30, 31, gotNone()), timed(32, 33, gotNone())},
	}
}

func TestFactsOfAValueTwice(t *testing.T) {
	for name, twice := range aValueTwice() {
		checkInOrder(t, name, true, slices.Concat(twice, outOfOrder())...)
		checkEmptyHeld(t, name, true, slices.Concat(twice, outOfOrder())...)
	}
	for name, others := range nothingTwiceBeside() {
		checkInOrder(t, name, false, slices.Concat(others, outOfOrder())...)
		checkEmptyHeld(t, name, false, slices.Concat(others, outOfOrder())...)
	}
}

// A Value twice makes it true in a list that is a story alone.
func TestFactsOfAValueTwiceInNoStory(t *testing.T) {
	for _, twice := range aValueTwice() {
		for _, e := range wrongEvents() {
			l := append(slices.Clone(twice), e)
			if impl.InOrder(l) || impl.EmptyHeld(l) {
				t.Errorf("%+v", l)
			}
		}
		l := append(slices.Repeat([]impl.Event{putFull(6)}, mostEvents+1), twice...)
		checkFacts(t, "too many", noFacts(), l...)
	}
}

func TestEmptyHeldOfOnePut(t *testing.T) {
	put, none := timed(1, 2, putDone(1)), timed(5, 7, gotNone())
	checkEmptyHeld(t, "in time", true, put, none, timed(3, 4, gotOne(1)))
	checkEmptyHeld(t, "beside", true, put, none, timed(6, 9, gotOne(1)))
	checkEmptyHeld(t, "too late", false, put, none, timed(8, 9, gotOne(1)))
	checkEmptyHeld(t, "not got", false, put, none)
	checkEmptyHeld(t, "another one got", false, put, none, timed(3, 4, gotOne(2)))
	checkEmptyHeld(t, "no room", true, timed(1, 2, putFull(1)), none)
	checkEmptyHeld(t, "no room, then put", false, timed(1, 2, putFull(1)), timed(3, 4, putDone(1)), none)
	checkEmptyHeld(t, "put and no room", true, timed(3, 4, putFull(1)), timed(5, 5, putDone(1)), none)
	checkEmptyHeld(t, "nobody found it empty", true, put)
	checkEmptyHeld(t, "nobody found it empty, out of order", true, inARow(putDone(1), putDone(2), gotOne(2))...)
	checkEmptyHeld(t, "got ahead of its put", true, timed(3, 4, putDone(1)), none, timed(0, 0, gotOne(1)))
}

func TestEmptyHeldAsksTimesOfPuts(t *testing.T) {
	none := timed(5, 7, gotNone())
	for begin := range int64(12) {
		for end := begin; end < 12; end++ {
			put := timed(begin, end, putDone(1))
			checkEmptyHeld(t, "not got", end >= 5, put, none)
			checkEmptyHeld(t, "got too late", end >= 5, put, none, timed(8, 20, gotOne(1)))
			checkEmptyHeld(t, "got", true, put, none, timed(7, 20, gotOne(1)))
		}
	}
	checkEmptyHeld(t, "touches", true, timed(1, 5, putDone(1)), none)
	checkEmptyHeld(t, "one ahead", false, timed(1, 4, putDone(1)), none)
	checkEmptyHeld(t, "all the time", true, timed(0, mostClock, putDone(1)), none)
}

func TestEmptyHeldAsksTimesOfTakes(t *testing.T) {
	put, none := timed(1, 2, putDone(1)), timed(5, 7, gotNone())
	for begin := range int64(12) {
		for end := begin; end < 12; end++ {
			checkEmptyHeld(t, "the take", begin <= 7, put, none, timed(begin, end, gotOne(1)))
		}
	}
	checkEmptyHeld(t, "the last moment", true, put, timed(5, mostClock, gotNone()), timed(mostClock, mostClock, gotOne(1)))
	checkEmptyHeld(t, "the last moment, one behind", false, put, timed(5, mostClock-1, gotNone()), timed(mostClock, mostClock, gotOne(1)))
}

func TestEmptyHeldOfSeveral(t *testing.T) {
	l := inARow(gotNone(), putDone(1), putDone(2), gotOne(1), gotOne(2), gotNone(), putDone(3))
	checkEmptyHeld(t, "before and behind", true, l...)
	for at, want := range []bool{true, true, false, false, true, true, true} {
		moment := l[at].Begin
		checkEmptyHeld(t, "once more", want, append(slices.Clone(l), timed(moment, moment, gotNone()))...)
	}
	checkEmptyHeld(t, "the first one not got", false, inARow(putDone(1), putDone(2), gotOne(2), gotNone())...)
	checkEmptyHeld(t, "the second one not got", false, inARow(putDone(1), putDone(2), gotOne(1), gotNone())...)
	checkEmptyHeld(t, "out of order", true, inARow(putDone(1), putDone(2), gotOne(2), gotOne(1), gotNone())...)
	checkEmptyHeld(t, "rightly, then not", false, inARow(putDone(1), gotOne(1), gotNone(), putDone(2), gotNone())...)
	checkEmptyHeld(t, "not rightly, then rightly", false, inARow(putDone(1), gotNone(), gotOne(1), gotNone())...)
}
