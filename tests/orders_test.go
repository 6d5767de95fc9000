package tests

import (
	"slices"
	"testing"

	"loop.example/g00610/impl"
)

// isInLine tells by the document's words, and by nothing of the program, whether
// l, just as it stands, is an order that explains it.
func isInLine(l []impl.Event) bool {
	var line []int64
	for n, e := range l {
		if slices.ContainsFunc(l[n+1:], func(later impl.Event) bool { return later.End < e.Begin }) {
			return false
		}
		switch {
		case e.Put && e.Reply == impl.ReDone:
			line = append(line, e.Value)
		case e.Put:
		case e.Reply == impl.ReEmpty && len(line) > 0:
			return false
		case e.Reply == impl.ReGot:
			if len(line) == 0 || line[0] != e.Value {
				return false
			}
			line = line[1:]
		}
	}
	return true
}

func bySlowCount(l []impl.Event) int64 {
	count := int64(0)
	everyOrder(nil, l, func(l []impl.Event) {
		if isInLine(l) {
			count++
		}
	})
	return count
}

func (l *lottery) drawnEvent() impl.Event {
	value := l.draw(1, 4)
	switch l.draw(0, 8) {
	case 0:
		return putFull(value)
	case 1:
		return gotNone()
	case 2, 3, 4:
		return gotOne(value)
	}
	return putDone(value)
}

func (l *lottery) drawnEvents(n int64) []impl.Event {
	all := make([]impl.Event, n)
	for i := range all {
		all[i] = l.drawnEvent()
		all[i].Who = l.draw(0, mostHands)
	}
	return all
}

// drawnRow has one order, as it stands: a line tells each Reply.
func (l *lottery) drawnRow(n int64) []impl.Event {
	all := l.drawnEvents(n)
	var line []int64
	for i, e := range all {
		switch {
		case e.Put && e.Reply == impl.ReDone:
			line = append(line, e.Value)
		case e.Put:
		case len(line) == 0:
			all[i].Value, all[i].Reply = 0, impl.ReEmpty
		default:
			all[i].Value, all[i].Reply = line[0], impl.ReGot
			line = line[1:]
		}
	}
	return all
}

// drawTimes has each one begin and end near to where it stands, so that it was
// under way there.
func (l *lottery) drawTimes(all []impl.Event) {
	wide := l.draw(1, 12)
	for i := range all {
		moment := int64(20 + 2*i)
		all[i].Begin, all[i].End = moment-l.draw(0, wide), moment+l.draw(0, wide)
	}
}

func (l *lottery) shuffle(all []impl.Event) {
	for i := range all {
		other := l.draw(int64(i), int64(len(all)))
		all[i], all[other] = all[other], all[i]
	}
}

// spoilOne makes another one of one of them, at the time of that.
func (l *lottery) spoilOne(all []impl.Event) {
	i := l.draw(0, int64(len(all)))
	all[i] = timed(all[i].Begin, all[i].End, l.drawnEvent())
}

// An orderTally counts lists without an order, with one, and with more, and
// what is in them.
type orderTally struct {
	lists   [3]int
	replies [lastReply + 1]int
}

func (o *orderTally) count(l []impl.Event, orders int64) {
	o.lists[min(orders, 2)]++
	countReplies(l, o.replies[:])
}

func (o *orderTally) check(t *testing.T) {
	t.Helper()
	for n, lists := range o.lists {
		if lists < 20 {
			t.Errorf("%d lists have %d orders (2: or more)", lists, n)
		}
	}
	for reply := impl.ReDone; reply <= lastReply; reply++ {
		if o.replies[reply] == 0 {
			t.Errorf("no Event has Reply %d", reply)
		}
	}
}

func checkBySlowCount(t *testing.T, name string, l []impl.Event, all *orderTally) {
	t.Helper()
	want := bySlowCount(l)
	checkOrders(t, name, l, want)
	all.count(l, want)
}

func TestOrdersOfDrawnEventsAtOneTime(t *testing.T) {
	var all orderTally
	for seed := range lottery(60) {
		for n := range int64(mostOrdered + 1) {
			checkBySlowCount(t, "drawn", atOnce(seed.drawnEvents(n)...), &all)
			row := seed.drawnRow(n)
			seed.shuffle(row)
			checkBySlowCount(t, "a row at one time", atOnce(row...), &all)
		}
	}
	all.check(t)
}

func TestOrdersOfDrawnEventsAndTimes(t *testing.T) {
	var all orderTally
	for seed := range lottery(60) {
		for n := int64(1); n <= mostOrdered; n++ {
			l := seed.drawnEvents(n)
			seed.drawTimes(l)
			seed.shuffle(l)
			checkBySlowCount(t, "drawn", l, &all)
			row := seed.drawnRow(n)
			seed.drawTimes(row)
			seed.shuffle(row)
			checkBySlowCount(t, "a row", row, &all)
			seed.spoilOne(row)
			checkBySlowCount(t, "a row with another one", row, &all)
		}
	}
	all.check(t)
}

// fewEvents are all there are of few Values and few times.
func fewEvents() []impl.Event {
	var all []impl.Event
	for _, e := range []impl.Event{putDone(1), putDone(2), putFull(1), gotOne(1), gotOne(2), gotNone()} {
		for begin := range int64(3) {
			for end := begin; end <= min(begin+1, 2); end++ {
				all = append(all, timed(begin, end, e))
			}
		}
	}
	return all
}

func TestOrdersOfEveryThree(t *testing.T) {
	var all orderTally
	few := fewEvents()
	for _, a := range few {
		for _, b := range few {
			checkBySlowCount(t, "two", []impl.Event{a, b}, &all)
			for _, c := range few {
				checkBySlowCount(t, "three", []impl.Event{a, b, c}, &all)
			}
		}
	}
	all.check(t)
}

// Promise 13. That there is an order is known, since one was drawn ahead of the
// times.
func TestWhatOneOrderExplainsIsLined(t *testing.T) {
	for seed := range lottery(400) {
		for n := range int64(mostLined + 3) {
			l := seed.drawnRow(n)
			seed.drawTimes(l)
			if !isInLine(l) {
				t.Fatalf("drawn as no order: %+v", l)
			}
			seed.shuffle(l)
			if impl.Lined(l) != (n <= mostLined) {
				t.Errorf("Lined(%+v) = %v", l, impl.Lined(l))
			}
			if orders := impl.Orders(l); (orders == -1) != (n > mostOrdered) || orders == 0 {
				t.Errorf("Orders(%+v) = %d", l, orders)
			}
		}
	}
}

func TestLinedOfSevenAndEightBySlowCount(t *testing.T) {
	var all orderTally
	for seed := range lottery(16) {
		for n := mostOrdered + 1; n <= mostLined; n++ {
			l := seed.drawnRow(int64(n))
			seed.drawTimes(l)
			for range seed.draw(0, 3) {
				seed.spoilOne(l)
			}
			seed.shuffle(l)
			orders := bySlowCount(l)
			checkLined(t, "seven or eight", l, orders > 0, -1)
			all.count(l, min(orders, 1))
		}
	}
	if all.lists[0] == 0 || all.lists[1] == 0 {
		t.Errorf("%v", all.lists)
	}
}

// What crews did is there as it was told turn by turn, with many at one time.
func TestOrdersOfStoriesOfCrews(t *testing.T) {
	var all orderTally
	everyShift(t, 8, func(s *shift) {
		s.run(t, int(s.draw(0, 80)), func(t *testing.T) {})
		for n := range int64(2) {
			l := impl.StoryOf(impl.Finished(s.crew))
			l = l[:min(len(l), mostOrdered)]
			if n > 0 && len(l) > 0 {
				s.spoilOne(l)
			}
			checkBySlowCount(t, "of a crew", l, &all)
		}
	})
	all.check(t)
}

// partOfStory stands within a longer list, whose Events behind it are its spare
// room; each of them alone would make another answer.
func partOfStory(l []impl.Event, room int) (whole, part []impl.Event) {
	whole = slices.Concat([]impl.Event{{Who: 71}, gotOne(72)}, l, []impl.Event{gotOne(73), {Who: 74}, gotOne(75)})
	return whole, whole[2 : 2+len(l) : 2+len(l)+room]
}

func storiesForOrders() map[string][]impl.Event {
	all := storiesAndOthers()
	all["a row"] = inARow(putDone(1), putDone(2), gotOne(1), gotOne(2))
	all["backwards"] = inARow(putDone(1), putDone(2), gotOne(1), gotOne(2), gotNone(), putFull(1))
	slices.Reverse(all["backwards"])
	all["at one time"] = atOnce(gotOne(1), gotOne(2), putDone(2), gotNone(), putDone(1), putFull(3))
	all["no order"] = atOnce(putDone(1), putDone(2), putDone(3), gotOne(4))
	all["eight"] = atOnce(putDone(1), putDone(2), putDone(3), gotOne(3), gotOne(2), gotOne(1), gotNone(), gotNone())
	all["eight, no order"] = atOnce(putDone(1), putDone(2), putDone(3), gotOne(3), gotOne(2), gotOne(1), gotOne(1), gotNone())
	all["nine"] = inARow(slices.Repeat([]impl.Event{putFull(1)}, 9)...)
	all["a wrong one last"] = append(inARow(putDone(1), gotOne(1)), impl.Event{})
	return all
}

func TestLinedLeavesItsArgument(t *testing.T) {
	for name, given := range storiesForOrders() {
		for room := range 4 {
			whole, l := partOfStory(given, room)
			kept := slices.Clone(whole)
			lined, orders := impl.Lined(l), impl.Orders(l)
			checkEvents(t, name+", the argument", whole, kept)
			checkLined(t, name+", asked again", l, lined, orders)
			checkLined(t, name+", of a list of its own", slices.Clone(given), lined, orders)
			checkEvents(t, name+", the argument, asked again", whole, kept)
		}
	}
}
