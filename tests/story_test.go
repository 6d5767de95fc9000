package tests

import (
	"math"
	"slices"
	"testing"

	"loop.example/g00610/impl"
)

const mostEvents = 16

func rightEvents() []impl.Event {
	return []impl.Event{
		{Put: true, Value: 1, Reply: impl.ReDone},
		{Put: true, Value: mostValue, Reply: impl.ReDone, Begin: mostClock, End: mostClock},
		{Who: 3, Put: true, Value: 1, Reply: impl.ReFull, End: mostClock},
		{Who: 1, Put: true, Value: mostValue, Reply: impl.ReFull, Begin: 7, End: 7},
		{Who: 2, Value: 1, Reply: impl.ReGot, Begin: 7, End: 8},
		{Who: 3, Value: mostValue, Reply: impl.ReGot, Begin: 0, End: 1},
		{Reply: impl.ReEmpty},
		{Who: 3, Reply: impl.ReEmpty, Begin: mostClock - 1, End: mostClock},
	}
}

// wrongEvents are not as in a story for one reason each.
func wrongEvents() []impl.Event {
	var all []impl.Event
	with := func(e impl.Event, of func(e *impl.Event) *int64, numbers ...int64) {
		for _, number := range numbers {
			*of(&e) = number
			all = append(all, e)
		}
	}
	who := func(e *impl.Event) *int64 { return &e.Who }
	begin := func(e *impl.Event) *int64 { return &e.Begin }
	end := func(e *impl.Event) *int64 { return &e.End }
	value := func(e *impl.Event) *int64 { return &e.Value }
	reply := func(e *impl.Event) *int64 { return &e.Reply }
	for _, e := range rightEvents() {
		with(e, who, outside(0, 3)...)
		with(e, begin, outside(0, e.End)...)
		with(e, end, outside(e.Begin, mostClock)...)
		if e.Reply == impl.ReEmpty {
			with(e, value, 1, mostValue)
			with(e, value, outside(0, 0)...)
			with(e, reply, append(outside(0, lastReply), impl.ReNone, impl.ReDone, impl.ReFull, impl.ReGot)...)
			continue
		}
		with(e, value, noValues()...)
		if e.Put {
			with(e, reply, append(outside(0, lastReply), impl.ReNone, impl.ReEmpty, impl.ReGot)...)
		} else {
			with(e, reply, append(outside(0, lastReply), impl.ReNone, impl.ReDone, impl.ReFull, impl.ReEmpty)...)
		}
		e.Put = !e.Put
		all = append(all, e)
	}
	return append(all, impl.Event{}, impl.Event{Put: true}, impl.Event{Put: true, Reply: impl.ReDone},
		impl.Event{Put: true, Reply: impl.ReEmpty}, impl.Event{Reply: impl.ReGot})
}

// valuesTold is from which Value on, and up to which, one tells what it does;
// where nothing can be told, no Value is from 1 to 0.
func valuesTold(put bool, reply int64) (least, most int64) {
	switch {
	case put && reply == impl.ReDone, put && reply == impl.ReFull, !put && reply == impl.ReGot:
		return 1, mostValue
	case !put && reply == impl.ReEmpty:
		return 0, 0
	}
	return 1, 0
}

func checkStoryOk(t *testing.T, name string, l []impl.Event, want bool) {
	t.Helper()
	if got := impl.StoryOk(l); got != want {
		t.Errorf("%s: StoryOk(%+v) = %v", name, l, got)
	}
}

func checkEventOk(t *testing.T, name string, e impl.Event, want bool) {
	t.Helper()
	checkStoryOk(t, name, []impl.Event{e}, want)
}

func TestStoryOkOfNoEvents(t *testing.T) {
	checkStoryOk(t, "nil", nil, true)
	checkStoryOk(t, "no Events", []impl.Event{}, true)
	checkStoryOk(t, "no Events, spare room", wrongEvents()[:0], true)
}

func TestStoryOkCountsEvents(t *testing.T) {
	for _, e := range rightEvents() {
		for n := range 40 {
			checkStoryOk(t, "as many", slices.Repeat([]impl.Event{e}, n), n <= mostEvents)
		}
		checkStoryOk(t, "very many", slices.Repeat([]impl.Event{e}, 100000), false)
	}
	checkStoryOk(t, "of all kinds", slices.Repeat(rightEvents(), 2), true)
	checkStoryOk(t, "one too many", append(slices.Repeat(rightEvents(), 2), rightEvents()[0]), false)
}

func TestStoryOkAsksWho(t *testing.T) {
	for _, e := range rightEvents() {
		for _, e.Who = range []int64{0, 1, 2, 3} {
			checkEventOk(t, "who", e, true)
		}
		for _, e.Who = range append(outside(0, 3), 5, 6) {
			checkEventOk(t, "nobody", e, false)
		}
	}
}

func TestStoryOkAsksBeginAndEnd(t *testing.T) {
	for _, e := range rightEvents() {
		for _, e.End = range []int64{0, 1, 2, 7, mostClock - 1, mostClock} {
			for _, e.Begin = range []int64{0, 1, e.End / 2, e.End - 1, e.End} {
				checkEventOk(t, "from Begin to End", e, e.Begin >= 0 && e.Begin <= e.End)
			}
			for _, e.Begin = range outside(0, e.End) {
				checkEventOk(t, "a Begin that is none", e, false)
			}
		}
		for _, e.End = range outside(0, mostClock) {
			for _, e.Begin = range append(outside(0, mostClock), 0, 1, mostClock, e.End) {
				checkEventOk(t, "an End that is none", e, false)
			}
		}
	}
}

func TestStoryOkAsksValueAndReply(t *testing.T) {
	values := append(outside(0, mostValue), 0, 1, 2, mostValue-1, mostValue)
	replies := append(outside(0, lastReply), 0, 1, 2, 3, lastReply)
	for _, put := range []bool{true, false} {
		for _, reply := range replies {
			least, most := valuesTold(put, reply)
			for _, value := range values {
				e := impl.Event{Who: 2, Put: put, Value: value, Reply: reply, Begin: 3, End: 9}
				checkEventOk(t, "a Reply and a Value", e, value >= least && value <= most)
			}
		}
	}
}

// One alone that is not right is enough, wherever it stands, and however many
// there are.
func TestStoryOkAsksEachEvent(t *testing.T) {
	for n := 1; n <= mostEvents; n++ {
		for at := range n {
			l := slices.Repeat(rightEvents(), 2)[:n]
			for _, l[at] = range rightEvents() {
				checkStoryOk(t, "all right", l, true)
			}
			for _, l[at] = range wrongEvents() {
				checkStoryOk(t, "one wrong", l, false)
			}
		}
	}
}

// A story has its Events as it has them: not by time, and there may be one
// twice.
func TestStoryOkLeavesTheOrderOpen(t *testing.T) {
	l := rightEvents()
	slices.Reverse(l)
	checkStoryOk(t, "backwards", l, true)
	checkStoryOk(t, "there and back", append(rightEvents(), l...), true)
}

func checkAhead(t *testing.T, name string, a, b impl.Event, want bool) {
	t.Helper()
	if got := impl.Ahead(a, b); got != want {
		t.Errorf("%s: Ahead(%+v, %+v) = %v", name, a, b, got)
	}
}

func during(begin, end int64) impl.Event {
	return impl.Event{Put: true, Value: 1, Reply: impl.ReDone, Begin: begin, End: end}
}

func TestAhead(t *testing.T) {
	a := during(3, 7)
	checkAhead(t, "less by one", a, during(8, 9), true)
	checkAhead(t, "equal", a, during(7, 9), false)
	checkAhead(t, "more by one", a, during(6, 9), false)
	checkAhead(t, "far behind", a, during(1000, mostClock), true)
	checkAhead(t, "far ahead", a, during(0, 1), false)
	checkAhead(t, "the same one", a, a, false)
	checkAhead(t, "one within the other", a, during(4, 6), false)
	checkAhead(t, "one around the other", a, during(0, 9), false)
	checkAhead(t, "at one time", during(0, 0), during(0, 0), false)
	checkAhead(t, "the first two times", during(0, 0), during(1, 1), true)
	checkAhead(t, "the last two times", during(mostClock-1, mostClock-1), during(mostClock, mostClock), true)
}

// clocks are numbers that a Begin or an End may have, and ones it may not.
func clocks() []int64 {
	return append(outside(0, mostClock), math.MinInt64+1, 0, 1, 2, 1000, mostClock-1, mostClock, math.MaxInt64-1)
}

func everyDuring() []impl.Event {
	var all []impl.Event
	for _, begin := range clocks() {
		for _, end := range clocks() {
			all = append(all, during(begin, end))
		}
	}
	return all
}

func TestAheadOfEveryTwo(t *testing.T) {
	for _, a := range everyDuring() {
		for _, b := range everyDuring() {
			checkAhead(t, "every two", a, b, a.End < b.Begin)
		}
	}
}

// Only the times are asked, whatever else they tell, right or not.
func TestAheadAsksTimesAlone(t *testing.T) {
	for _, a := range append(wrongEvents(), rightEvents()...) {
		for _, b := range append(wrongEvents(), rightEvents()...) {
			checkAhead(t, "right or not", a, b, a.End < b.Begin)
		}
	}
}

// checkOrder wants an order of those whose Begin is at most their End.
func checkOrder(t *testing.T, l []impl.Event) {
	t.Helper()
	for _, a := range l {
		checkAhead(t, "of itself", a, a, false)
		for _, b := range l {
			if impl.Ahead(a, b) && impl.Ahead(b, a) {
				t.Errorf("each ahead of the other: %+v, %+v", a, b)
			}
			for _, c := range l {
				if impl.Ahead(a, b) && impl.Ahead(b, c) && !impl.Ahead(a, c) {
					t.Errorf("%+v, %+v, %+v", a, b, c)
				}
			}
		}
	}
}

func TestAheadIsAnOrder(t *testing.T) {
	isBackwards := func(e impl.Event) bool { return e.Begin > e.End }
	checkOrder(t, slices.DeleteFunc(everyDuring(), isBackwards))
	checkOrder(t, slices.DeleteFunc(append(wrongEvents(), rightEvents()...), isBackwards))
}

// What begins behind its own End is no Event of a story, and is Ahead of
// itself: the words tell so.
func TestAheadOfOneBackwards(t *testing.T) {
	checkAhead(t, "backwards", during(5, 4), during(5, 4), true)
	checkAhead(t, "the ends of numbers", during(math.MaxInt64, math.MinInt64), during(math.MaxInt64, math.MinInt64), true)
}

func checkEvents(t *testing.T, name string, got, want []impl.Event) {
	t.Helper()
	if !slices.Equal(got, want) {
		t.Errorf("%s: %+v, not %+v", name, got, want)
	}
}

func TestStoryOf(t *testing.T) {
	for name, c := range crewsInUse() {
		checkEvents(t, name, impl.StoryOf(c), c.Events)
	}
	for n := range mostEvents + 1 {
		for from := range len(rightEvents()) {
			want := slices.Repeat(rightEvents(), 3)[from:][:n]
			checkEvents(t, "so many", impl.StoryOf(changedCrew(workingCrew(), eventsAre(want...))), want)
		}
	}
	c := changedCrew(workingCrew(), clockIs(0), eventsAre(rightEvents()...), func(c *impl.Crew) { c.Begins = make([]int64, mostHands) })
	checkEvents(t, "later than the Clock", impl.StoryOf(c), rightEvents())
}

func TestStoryOfOneAlone(t *testing.T) {
	c := newCrewOf(2, 2, []int64{7, 0, 0})
	checkEvents(t, "a new crew", impl.StoryOf(c), nil)
	put := impl.Event{Put: true, Value: 7, Reply: impl.ReDone, Begin: 1, End: 5}
	checkEvents(t, "four turns", impl.StoryOf(impl.Turns(c, make([]int64, 4))), nil)
	checkEvents(t, "five turns", impl.StoryOf(impl.Turns(c, make([]int64, 5))), []impl.Event{put})
	got := impl.Event{Value: 7, Reply: impl.ReGot, Begin: 6, End: 9}
	none := impl.Event{Reply: impl.ReEmpty, Begin: 10, End: 18}
	checkEvents(t, "finished", impl.StoryOf(impl.Finished(c)), []impl.Event{put, got, none})
}

func TestStoryOfWhatIsNoCrew(t *testing.T) {
	for name, c := range wrongCrews() {
		checkEvents(t, name, impl.StoryOf(c), nil)
	}
	for _, e := range wrongEvents() {
		for at := range mostEvents {
			l := slices.Repeat(rightEvents(), 2)
			l[at] = e
			checkEvents(t, "an Event", impl.StoryOf(changedCrew(workingCrew(), eventsAre(l...))), nil)
		}
	}
	for name, s := range wrongStores() {
		c := workingCrew()
		c.Store = s
		checkEvents(t, name, impl.StoryOf(c), nil)
	}
	for _, h := range noHands() {
		for who := range int64(mostHands) {
			checkEvents(t, "no hand", impl.StoryOf(changedCrew(workingCrew(), handIs(who, h))), nil)
		}
	}
}

func putOf(value, reply int64) impl.Event {
	return impl.Event{Who: 1, Put: true, Value: value, Reply: reply, Begin: 2, End: 9}
}

func takeOf(value, reply int64) impl.Event {
	return impl.Event{Who: 2, Value: value, Reply: reply, Begin: 1, End: 8}
}

func checkMoved(t *testing.T, name string, l []impl.Event, puts, gots []int64) {
	t.Helper()
	checkList(t, name+", PutsIn", impl.PutsIn(l), puts)
	checkList(t, name+", GotsIn", impl.GotsIn(l), gots)
}

func TestPutsInAndGotsIn(t *testing.T) {
	done, full := putOf(5, impl.ReDone), putOf(6, impl.ReFull)
	got, none := takeOf(7, impl.ReGot), takeOf(0, impl.ReEmpty)
	checkMoved(t, "nil", nil, nil, nil)
	checkMoved(t, "no Events", []impl.Event{}, nil, nil)
	checkMoved(t, "done", []impl.Event{done}, []int64{5}, nil)
	checkMoved(t, "full", []impl.Event{full}, nil, nil)
	checkMoved(t, "got", []impl.Event{got}, nil, []int64{7})
	checkMoved(t, "none", []impl.Event{none}, nil, nil)
	checkMoved(t, "the greatest", []impl.Event{putOf(mostValue, impl.ReDone), takeOf(mostValue, impl.ReGot)},
		[]int64{mostValue}, []int64{mostValue})
	checkMoved(t, "the least", []impl.Event{takeOf(1, impl.ReGot), putOf(1, impl.ReDone)}, []int64{1}, []int64{1})
	checkMoved(t, "all twice", []impl.Event{done, got, full, done, none, got, full, none}, []int64{5, 5}, []int64{7, 7})
	checkMoved(t, "one Value only", slices.Repeat([]impl.Event{putOf(4, impl.ReDone), takeOf(4, impl.ReGot)}, 8),
		slices.Repeat([]int64{4}, 8), slices.Repeat([]int64{4}, 8))
}

// everyOrder gives each order of the l, with what stands ahead of it.
func everyOrder(ahead, l []impl.Event, with func(l []impl.Event)) {
	if len(l) == 0 {
		with(ahead)
		return
	}
	for at := range l {
		rest := slices.Delete(slices.Clone(l), at, at+1)
		everyOrder(append(slices.Clone(ahead), l[at]), rest, with)
	}
}

// Neither Values nor times rise in every one of the orders, so they are in the
// order of the list and in no other one.
func TestPutsInAndGotsInKeepTheOrder(t *testing.T) {
	one, two := putOf(30, impl.ReDone), putOf(20, impl.ReDone)
	two.Begin, two.End = 0, 1
	first, second := takeOf(20, impl.ReGot), takeOf(40, impl.ReGot)
	second.Who, second.End = 0, 3
	l := []impl.Event{one, two, first, second, putOf(10, impl.ReFull), takeOf(0, impl.ReEmpty)}
	orders := 0
	everyOrder(nil, l, func(l []impl.Event) {
		var puts, gots []int64
		for _, e := range l {
			switch e.Value {
			case 30, 20:
				if e.Put {
					puts = append(puts, e.Value)
					continue
				}
				gots = append(gots, e.Value)
			case 40:
				gots = append(gots, e.Value)
			}
		}
		checkMoved(t, "an order", l, puts, gots)
		orders++
	})
	if orders != 720 {
		t.Errorf("%d orders", orders)
	}
}

func TestPutsInAndGotsInOfAllEvents(t *testing.T) {
	var l []impl.Event
	var puts []int64
	for n := range int64(mostEvents) {
		l, puts = append(l, putOf(100-n, impl.ReDone)), append(puts, 100-n)
	}
	checkMoved(t, "16 puts", l, puts, nil)
	checkMoved(t, "17 puts", append(l, putOf(1, impl.ReDone)), nil, nil)
	for at := range l {
		l[at].Put, l[at].Reply = false, impl.ReGot
	}
	checkMoved(t, "16 takes", l, nil, puts)
	checkMoved(t, "17 takes", append(l, takeOf(1, impl.ReGot)), nil, nil)
}

func TestPutsInAndGotsInOfNoStory(t *testing.T) {
	for n := 1; n <= mostEvents; n++ {
		for at := range n {
			l := slices.Repeat(rightEvents(), 2)[:n]
			for _, l[at] = range wrongEvents() {
				checkMoved(t, "one wrong", l, nil, nil)
			}
		}
	}
	checkMoved(t, "17", append(slices.Repeat(rightEvents(), 2), takeOf(0, impl.ReEmpty)), nil, nil)
}
