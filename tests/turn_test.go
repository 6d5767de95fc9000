package tests

import (
	"math"
	"slices"
	"testing"

	"loop.example/g00610/impl"
)

// A turnCase is a Turn of one of a crew, and what is changed then besides the
// Clock.
type turnCase struct {
	name string
	crew impl.Crew
	who  int64
	then []crewChange
}

func (c turnCase) wanted() impl.Crew {
	return changedCrew(c.crew, append(c.then, clockIs(c.crew.Clock+1))...)
}

func eventMore(e impl.Event) crewChange {
	return func(c *impl.Crew) { c.Events = append(c.Events, e) }
}

// busyCrew is workingCrew at that Store, but for the one in the midst, which
// began at 6.
func busyCrew(s impl.Store, h impl.Hand) impl.Crew {
	return changedCrew(workingCrew(), handIs(2, h), func(c *impl.Crew) { c.Store = copied(s) })
}

// Whatever a Hand at rest has besides its Spare is gone when it begins.
func beginCases() []turnCase {
	putsOn := func(ring, value, spare int64) impl.Hand {
		return impl.Hand{At: impl.AtNext, Value: value, Ring: ring, Spare: spare}
	}
	takesFrom := func(ring, spare int64) impl.Hand {
		return impl.Hand{At: impl.AtTakeTicket, Ring: ring, Spare: spare}
	}
	two := changedCrew(workingCrew(), func(c *impl.Crew) { c.Store = filledStore(2, 3, 2, 1) },
		storeIs(func(s *impl.Store) { s.First = 1 }))
	used := busyCrew(usedStore(), busyHand(impl.AtPut))
	atRest := impl.Hand{Value: 7, Ring: 2, Ticket: 9, Seen: full(9, 3), Tries: 1, Spare: 3, Again: true, Reply: lastReply}
	used = changedCrew(used, handIs(0, atRest), handIs(1, atRest))
	return []turnCase{
		{"a Job to put", workingCrew(), 0, []crewChange{handIs(0, putsOn(0, 70, -1)), jobsAre(0, 0), beginIs(0, 11)}},
		{"a Job to take", workingCrew(), 1, []crewChange{handIs(1, takesFrom(0, -1)), jobsAre(1, 8, 9), beginIs(1, 11)}},
		{"a Job to put, two rings", two, 0, []crewChange{handIs(0, putsOn(1, 70, -1)), jobsAre(0, 0), beginIs(0, 11)}},
		{"a Job to take, two rings", two, 1, []crewChange{handIs(1, takesFrom(1, -1)), jobsAre(1, 8, 9), beginIs(1, 11)}},
		{"a Job to put, a Spare", used, 0, []crewChange{handIs(0, putsOn(2, 70, 3)), jobsAre(0, 0), beginIs(0, 11)}},
		{"a Job to take, a Spare", used, 1, []crewChange{handIs(1, takesFrom(0, 3)), jobsAre(1, 8, 9), beginIs(1, 11)}},
		{"the last Job", changedCrew(workingCrew(), jobsAre(3, mostValue)), 3,
			[]crewChange{handIs(3, putsOn(0, mostValue, -1)), jobsAre(3), beginIs(3, 11)}},
		{"the last Job, to take", changedCrew(workingCrew(), jobsAre(3, 0)), 3,
			[]crewChange{handIs(3, takesFrom(0, -1)), jobsAre(3), beginIs(3, 11)}},
		{"four Jobs", changedCrew(workingCrew(), jobsAre(3, 1, 0, 0, 2)), 3,
			[]crewChange{handIs(3, putsOn(0, 1, -1)), jobsAre(3, 0, 0, 2), beginIs(3, 11)}},
		{"one who began at this Clock", changedCrew(workingCrew(), beginIs(0, 10)), 0,
			[]crewChange{handIs(0, putsOn(0, 70, -1)), jobsAre(0, 0), beginIs(0, 11)}},
	}
}

func midstCases() []turnCase {
	looks := impl.Hand{At: impl.AtLook, Value: 60, Ticket: 1, Spare: -1}
	puts := impl.Hand{At: impl.AtPut, Value: 60, Ticket: 1, Seen: safePlace(1), Spare: -1}
	sees := impl.Hand{At: impl.AtSee, Value: 60, Spare: -1}
	grabs := impl.Hand{At: impl.AtGrab, Value: 60, Seen: full(0, 1), Spare: -1}
	asks := impl.Hand{At: impl.AtTakeTicket, Spare: -1}
	asked := impl.Hand{At: impl.AtSee, Ticket: 0, Spare: -1}
	one := filledStore(2, 2, 1)
	return []turnCase{
		{"one that puts", busyCrew(one, looks), 2, []crewChange{handIs(2, puts)}},
		{"one that takes", busyCrew(one, sees), 2, []crewChange{handIs(2, grabs)}},
		{"one that changes the store", busyCrew(one, asks), 2,
			[]crewChange{handIs(2, asked), storeIs(headIs(0, 1))}},
		{"without a Job to come", changedCrew(busyCrew(one, looks), jobsAre(2)), 2, []crewChange{handIs(2, puts)}},
	}
}

// Each Reply, and of each one both what the Hand had as its Value ahead of it
// and what it has then.
func endCases() []turnCase {
	event := func(put bool, value, reply int64) crewChange {
		return eventMore(impl.Event{Who: 2, Put: put, Value: value, Reply: reply, Begin: 6, End: 11})
	}
	got := func(value int64) impl.Hand { return impl.Hand{Value: value, Spare: -1, Reply: impl.ReGot} }
	one, two := filledStore(2, 2, 1), filledStore(2, 3, 2, 1)
	grabs := impl.Hand{At: impl.AtGrab, Value: 60, Seen: full(0, 1), Spare: -1}
	empty := impl.Hand{At: impl.AtEmpty, Value: 60, Spare: -1}
	makes := impl.Hand{At: impl.AtMake, Value: 60, Spare: -1}
	swings := impl.Hand{At: impl.AtSwing, Value: mostValue, Ring: 0, Spare: 1}
	late := changed(two, lastIs(0))
	return []turnCase{
		{"ReDone", workingCrew(), 2, []crewChange{event(true, 60, impl.ReDone), handIs(2, restedWith(impl.ReDone, -1)),
			storeIs(placeIs(0, 1, full(1, 60)))}},
		{"ReDone, on a ring of its own", busyCrew(late, swings), 2, []crewChange{event(true, mostValue, impl.ReDone),
			handIs(2, restedWith(impl.ReDone, -1)), storeIs(lastIs(1))}},
		{"ReFull", busyCrew(filledStore(2, 1, 2), makes), 2, []crewChange{event(true, 60, impl.ReFull), handIs(2, restedWith(impl.ReFull, -1))}},
		{"ReGot", busyCrew(one, grabs), 2, []crewChange{event(false, 1, impl.ReGot), handIs(2, got(1)),
			storeIs(headIs(0, 0)), storeIs(placeIs(0, 0, safePlace(2)))}},
		{"ReEmpty", busyCrew(one, empty), 2, []crewChange{event(false, 0, impl.ReEmpty), handIs(2, restedWith(impl.ReEmpty, -1))}},
		{"ReEmpty, began at 0", changedCrew(busyCrew(one, empty), beginIs(2, 0)), 2, []crewChange{
			eventMore(impl.Event{Who: 2, Reply: impl.ReEmpty, Begin: 0, End: 11}), handIs(2, restedWith(impl.ReEmpty, -1))}},
		{"ReEmpty, no Events yet", changedCrew(busyCrew(one, empty), eventsAre()), 2, []crewChange{
			event(false, 0, impl.ReEmpty), handIs(2, restedWith(impl.ReEmpty, -1))}},
	}
}

func everyTurnCase() []turnCase { return slices.Concat(beginCases(), midstCases(), endCases()) }

func checkTurn(t *testing.T, name string, c impl.Crew, who int64, want impl.Crew, wantIs bool) {
	t.Helper()
	got, is := impl.Turn(c, who)
	checkCrewAnd(t, name, got, is, want, wantIs)
}

func TestTurn(t *testing.T) {
	for _, c := range everyTurnCase() {
		checkCrewOk(t, c.name, c.crew, true)
		checkTurn(t, c.name, c.crew, c.who, c.wanted(), true)
		checkCrewOk(t, c.name+", then", c.wanted(), true)
	}
}

// Whoever has the Turn, the same is done by it.
func TestTurnOfEachWho(t *testing.T) {
	for _, c := range everyTurnCase() {
		for who := range int64(mostHands) {
			swap := func(crew *impl.Crew) {
				crew.Hands[who], crew.Hands[c.who] = crew.Hands[c.who], crew.Hands[who]
				crew.Jobs[who], crew.Jobs[c.who] = crew.Jobs[c.who], crew.Jobs[who]
				crew.Begins[who], crew.Begins[c.who] = crew.Begins[c.who], crew.Begins[who]
			}
			want := changedCrew(c.wanted(), swap)
			if n := len(want.Events); n > len(c.crew.Events) {
				want.Events[n-1].Who = who
			}
			checkTurn(t, c.name, changedCrew(c.crew, swap), who, want, true)
		}
	}
}

func TestTurnOfNobody(t *testing.T) {
	for n := 1; n <= mostHands; n++ {
		c := newCrewOf(2, 2, slices.Repeat([][]int64{{7}}, n)...)
		for _, who := range append(outside(0, int64(n)-1), 3, 4, 5) {
			if who >= int64(n) || who < 0 {
				checkTurn(t, "nobody", c, who, c, false)
			}
		}
	}
}

func TestTurnWithoutAJob(t *testing.T) {
	for _, h := range everyAtRest() {
		c := changedCrew(workingCrew(), handIs(3, h))
		checkTurn(t, "no Job", c, 3, c, false)
		c = changedCrew(c, jobsAre(3, []int64{}...))
		checkTurn(t, "no Job, an empty list", c, 3, c, false)
	}
}

func TestTurnAtTheEndOfTheClock(t *testing.T) {
	for _, c := range everyTurnCase() {
		c.crew.Clock = mostClock
		checkTurn(t, c.name+", the Clock at its end", c.crew, c.who, c.crew, false)
	}
	for _, c := range slices.Concat(midstCases(), endCases()) {
		c.crew.Clock = mostClock - 1
		want := c.wanted()
		if n := len(want.Events); n > len(c.crew.Events) {
			want.Events[n-1].End = mostClock
		}
		checkTurn(t, c.name+", one ahead of the end", c.crew, c.who, want, true)
	}
	for _, c := range beginCases() {
		c.crew.Clock = mostClock - 1
		c.then = append(c.then, beginIs(c.who, mostClock))
		checkTurn(t, c.name+", one ahead of the end", c.crew, c.who, c.wanted(), true)
	}
}

// Who does not rest then has no Event, so that there is room for all.
func TestTurnOfACrewWithManyEvents(t *testing.T) {
	for _, n := range []int{mostEvents - 2, mostEvents - 1, mostEvents} {
		events := eventsAre(slices.Repeat(rightEvents(), 2)[:n]...)
		for _, c := range slices.Concat(beginCases(), midstCases()) {
			c.crew = changedCrew(c.crew, events)
			checkTurn(t, c.name+", many Events", c.crew, c.who, c.wanted(), true)
		}
		for _, c := range endCases() {
			c.crew = changedCrew(c.crew, events)
			if n < mostEvents && len(c.crew.Events) > 0 {
				checkTurn(t, c.name+", many Events", c.crew, c.who, c.wanted(), true)
			} else {
				checkTurn(t, c.name+", all Events", c.crew, c.who, c.crew, false)
			}
		}
	}
}

func TestTurnWhereNothingIsDone(t *testing.T) {
	noTail := changed(filledStore(2, 2, 1), tailIs(0, mostNo))
	noHead := changed(filledStore(2, 2, 1), headIs(0, mostNo))
	hands := map[string]impl.Crew{
		"no ticket to put":  busyCrew(noTail, impl.Hand{At: impl.AtPutTicket, Value: 60, Spare: -1}),
		"no ticket to take": busyCrew(noHead, impl.Hand{At: impl.AtTakeTicket, Spare: -1}),
		"no more Tries":     busyCrew(noTail, impl.Hand{At: impl.AtCheck, Value: 60, Tries: mostNo, Spare: -1}),
	}
	for name, c := range hands {
		checkTurn(t, name, c, 2, c, false)
		for _, who := range []int64{0, 1} {
			if _, is := impl.Turn(c, who); !is {
				t.Errorf("%s: nor does %d anything", name, who)
			}
		}
	}
}

// One at rest fits whatever its Spare is, and one that has begun does not, if
// that is no ring of the Store: so it can't begin, and its Job is still to come.
func TestTurnOfOneThatCantBegin(t *testing.T) {
	for spare := range int64(mostRings) {
		for _, jobs := range [][]int64{{70}, {0}, {70, 0}, {0, 70, 1, 0}} {
			c := changedCrew(busyCrew(usedStore(), busyHand(impl.AtPut)), jobsAre(0, jobs...),
				handIs(0, impl.Hand{Value: 5, Spare: spare, Reply: impl.ReGot}))
			checkCrewOk(t, "at rest", c, true)
			if spare >= 4 {
				checkTurn(t, "no such Spare", c, 0, c, false)
				continue
			}
			got, is := impl.Turn(c, 0)
			if !is || got.Hands[0].Spare != spare || len(got.Jobs[0]) != len(jobs)-1 || got.Begins[0] != 11 {
				t.Errorf("Spare %d, Jobs %v: %+v, %v", spare, jobs, got, is)
			}
		}
	}
}

func TestTurnOfWhatIsNoCrew(t *testing.T) {
	for name, c := range wrongCrews() {
		for who := int64(-1); who <= mostHands+1; who++ {
			checkTurn(t, name, c, who, impl.Crew{}, false)
		}
	}
	for _, number := range endsOfNumbers() {
		c := workingCrew()
		checkTurn(t, "the ends of numbers", c, number, c, false)
		c.Clock = number
		checkTurn(t, "the ends of numbers", c, number, impl.Crew{}, false)
	}
}

// byTurns is one Turn after the other.
func byTurns(c impl.Crew, list []int64) impl.Crew {
	for _, who := range list {
		c, _ = impl.Turn(c, who)
	}
	return c
}

func TestTurns(t *testing.T) {
	lists := [][]int64{nil, {}, {0}, {1}, {2}, {3}, {-1}, {4}, {math.MaxInt64, 0}, {3, 0, 3}, {0, 1, 2, 3, 0, 1, 2, 3, 9, 2, 2}}
	for _, list := range lists {
		for name, c := range crewsInUse() {
			checkCrew(t, name, impl.Turns(c, list), byTurns(c, list))
		}
	}
	c := workingCrew()
	checkCrew(t, "none", impl.Turns(c, nil), c)
	checkCrew(t, "none does anything", impl.Turns(c, []int64{3, -1, 4, 3}), c)
	began := beginCases()[1].wanted()
	checkCrew(t, "some do nothing", impl.Turns(c, []int64{3, -1, 1, 4, 3}), began)
}

// Also of turns by which nothing is done there may be as many, and no more.
func TestTurnsAtTheirLimit(t *testing.T) {
	for name, c := range crewsInUse() {
		for _, n := range []int{mostTurns - 1, mostTurns} {
			for _, list := range [][]int64{slices.Repeat([]int64{3}, n), slices.Repeat([]int64{0, 1, 2, -1}, n)[:n]} {
				checkCrew(t, name, impl.Turns(c, list), byTurns(c, list))
			}
		}
		for _, n := range []int{mostTurns + 1, mostTurns + 2, 100 * mostTurns} {
			for _, list := range [][]int64{slices.Repeat([]int64{3}, n), slices.Repeat([]int64{0, 1, 2, -1}, n)[:n]} {
				checkCrew(t, name+", too many", impl.Turns(c, list), impl.Crew{})
			}
		}
	}
}

// Among the turns that are counted is the last one: it alone does something.
func TestTurnsDoesTheLastOne(t *testing.T) {
	list := append(slices.Repeat([]int64{3}, mostTurns-1), 1)
	checkCrew(t, "the last one", impl.Turns(workingCrew(), list), beginCases()[1].wanted())
}

func TestTurnsOfWhatIsNoCrew(t *testing.T) {
	for name, c := range wrongCrews() {
		for _, list := range [][]int64{nil, {0}, {0, 1, 2, 3}, {-1}, make([]int64, mostTurns), make([]int64, mostTurns+1)} {
			checkCrew(t, name, impl.Turns(c, list), impl.Crew{})
		}
	}
}

// inRounds is turns of all, again and again, in order, till a round does
// nothing.
func inRounds(c impl.Crew) impl.Crew {
	for done := true; done; {
		done = false
		for who := range int64(len(c.Hands)) {
			then, is := impl.Turn(c, who)
			c, done = then, done || is
		}
	}
	return c
}

func checkFinished(t *testing.T, name string, c impl.Crew) impl.Crew {
	t.Helper()
	got := impl.Finished(c)
	checkCrew(t, name, got, inRounds(c))
	checkCrewOk(t, name, got, true)
	for who := range int64(mostHands) {
		checkTurn(t, name+", nobody's turn", got, who, got, false)
	}
	checkCrew(t, name+", once more", impl.Finished(got), got)
	return got
}

func TestFinished(t *testing.T) {
	for name, c := range crewsInUse() {
		checkFinished(t, name, c)
	}
	for _, c := range everyTurnCase() {
		checkFinished(t, c.name, c.crew)
		checkFinished(t, c.name+", the Clock at its end", changedCrew(c.crew, clockIs(mostClock)))
	}
}

// Who puts comes too late to its first place, and the other one has nothing to
// wait for: odd turns are of the one, even ones of the other.
func TestFinishedOfTwo(t *testing.T) {
	c := checkFinished(t, "two", newCrewOf(2, 2, []int64{7}, []int64{0}))
	want := []impl.Event{
		{Who: 1, Reply: impl.ReEmpty, Begin: 2, End: 16},
		{Who: 0, Put: true, Value: 7, Reply: impl.ReDone, Begin: 1, End: 17},
	}
	if !slices.Equal(c.Events, want) {
		t.Errorf("%+v", c.Events)
	}
}

func TestFinishedOfOneAlone(t *testing.T) {
	c := checkFinished(t, "one", newCrewOf(2, 2, []int64{7, 0, 0}))
	want := []impl.Event{
		{Put: true, Value: 7, Reply: impl.ReDone, Begin: 1, End: 5},
		{Value: 7, Reply: impl.ReGot, Begin: 6, End: 9},
		{Reply: impl.ReEmpty, Begin: 10, End: 18},
	}
	if !slices.Equal(c.Events, want) || c.Clock != 18 || len(c.Jobs[0]) != 0 {
		t.Errorf("%+v", c)
	}
}

// What can't be done in one round can be in a later one: here it has no ticket
// till another one has set Tail back.
func TestFinishedGoesOnWhileOneDoesAnything(t *testing.T) {
	c := newCrewOf(2, 2, nil, nil, []int64{0})
	c.Store.Rings[0].Tail = mostNo
	c.Hands[0] = impl.Hand{At: impl.AtPutTicket, Value: 60, Spare: -1}
	c.Hands[1] = impl.Hand{At: impl.AtFixHead, Spare: -1}
	checkFinished(t, "stuck for good", c)
	c.Hands[1] = impl.Hand{At: impl.AtFixSwap, Ticket: mostNo, Tries: 0, Spare: -1}
	got := checkFinished(t, "stuck for a while", c)
	if len(got.Events) != 3 {
		t.Errorf("%+v", got.Events)
	}
}

// Nobody rests any more when there are as many Events as may be, but whoever
// has steps ahead of that does them.
func TestFinishedWithAllEvents(t *testing.T) {
	for n := range int64(4) {
		events := slices.Repeat(rightEvents(), 2)[:mostEvents-n]
		c := newCrewOf(3, 3, []int64{1, 0, 2, 0}, []int64{0, 3, 0}, []int64{4, 5})
		got := checkFinished(t, "all Events", changedCrew(c, eventsAre(events...)))
		if len(got.Events) != mostEvents {
			t.Errorf("%d more: %+v", n, got.Events)
		}
	}
}

func TestFinishedNearTheEndOfTheClock(t *testing.T) {
	for before := range int64(60) {
		for _, c := range []impl.Crew{workingCrew(), newCrewOf(2, 3, []int64{1, 2, 3}, []int64{0, 0, 0})} {
			got := checkFinished(t, "near the end", changedCrew(c, clockIs(mostClock-before)))
			if before < 30 && got.Clock != mostClock {
				t.Errorf("%d ahead of the end: Clock %d", before, got.Clock)
			}
		}
	}
}

// Round is 2: who looks for a ticket of mostNo-1 looks again and again, so only
// the Clock comes to an end.
func TestFinishedOfOneWhoHasNoEnd(t *testing.T) {
	c := newCrewOf(2, 1, []int64{0}, nil, nil)
	c.Hands[1] = impl.Hand{At: impl.AtSee, Ticket: mostNo - 1, Spare: -1}
	if got := checkFinished(t, "no end", c); got.Clock != mostClock || len(got.Events) != 1 {
		t.Errorf("%+v", got)
	}
}

func TestFinishedOfWhatIsNoCrew(t *testing.T) {
	for name, c := range wrongCrews() {
		checkCrew(t, name, impl.Finished(c), impl.Crew{})
	}
}
