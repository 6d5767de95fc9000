package tests

import (
	"math"
	"slices"
	"testing"

	"loop.example/g00610/impl"
)

const (
	mostClock = 2000
	mostHands = 4
	mostJobs  = 4
	mostTurns = 400
)

func sameCrew(a, b impl.Crew) bool {
	return sameStore(a.Store, b.Store) && slices.Equal(a.Hands, b.Hands) &&
		slices.EqualFunc(a.Jobs, b.Jobs, slices.Equal[[]int64]) &&
		slices.Equal(a.Begins, b.Begins) && a.Clock == b.Clock && slices.Equal(a.Events, b.Events)
}

func copiedJobs(jobs [][]int64) [][]int64 {
	jobs = slices.Clone(jobs)
	for who := range jobs {
		jobs[who] = slices.Clone(jobs[who])
	}
	return jobs
}

// copiedCrew shares nothing with c, so that a change of c shows against it.
func copiedCrew(c impl.Crew) impl.Crew {
	c.Store, c.Jobs = copied(c.Store), copiedJobs(c.Jobs)
	c.Hands, c.Begins, c.Events = slices.Clone(c.Hands), slices.Clone(c.Begins), slices.Clone(c.Events)
	return c
}

func checkCrewOk(t *testing.T, name string, c impl.Crew, want bool) {
	t.Helper()
	if got := impl.CrewOk(c); got != want {
		t.Errorf("%s: CrewOk(%+v) = %v", name, c, got)
	}
}

func checkCrew(t *testing.T, name string, got, want impl.Crew) {
	t.Helper()
	if !sameCrew(got, want) {
		t.Errorf("%s: the crew is %+v, not %+v", name, got, want)
	}
}

func checkCrewAnd(t *testing.T, name string, got impl.Crew, is bool, want impl.Crew, wantIs bool) {
	t.Helper()
	checkCrew(t, name, got, want)
	if is != wantIs {
		t.Errorf("%s: %v of %+v", name, is, want)
	}
}

type crewChange func(c *impl.Crew)

func changedCrew(c impl.Crew, changes ...crewChange) impl.Crew {
	c = copiedCrew(c)
	for _, change := range changes {
		change(&c)
	}
	return c
}

func clockIs(clock int64) crewChange { return func(c *impl.Crew) { c.Clock = clock } }

func handIs(who int64, h impl.Hand) crewChange {
	return func(c *impl.Crew) { c.Hands[who] = h }
}

func jobsAre(who int64, jobs ...int64) crewChange {
	return func(c *impl.Crew) { c.Jobs[who] = jobs }
}

func beginIs(who, begin int64) crewChange { return func(c *impl.Crew) { c.Begins[who] = begin } }

func eventsAre(l ...impl.Event) crewChange {
	return func(c *impl.Crew) { c.Events = slices.Clone(l) }
}

func storeIs(change func(s *impl.Store)) crewChange {
	return func(c *impl.Crew) { change(&c.Store) }
}

// workingCrew has one at rest that is to put next, one that is to take, one
// that puts its parcel with its next step, and one that has no Job left.
func workingCrew() impl.Crew {
	return impl.Crew{
		Store: filledStore(2, 2, 1),
		Hands: []impl.Hand{
			{Value: 5, Spare: -1, Reply: impl.ReGot},
			restedWith(impl.ReDone, -1),
			{At: impl.AtPut, Value: 60, Ticket: 1, Seen: safePlace(1), Spare: -1},
			impl.Resting(),
		},
		Jobs:   [][]int64{{70, 0}, {0, 8, 9}, {10}, nil},
		Begins: []int64{4, 0, 6, 2},
		Clock:  10,
		Events: []impl.Event{
			{Who: 1, Put: true, Value: 5, Reply: impl.ReDone, Begin: 0, End: 3},
			{Who: 0, Value: 5, Reply: impl.ReGot, Begin: 4, End: 8},
		},
	}
}

// crewOf is that many Hands at rest, without Jobs.
func crewOf(n int) impl.Crew {
	return impl.Crew{
		Store:  filledStore(2, 2, 0),
		Hands:  slices.Repeat([]impl.Hand{impl.Resting()}, n),
		Jobs:   make([][]int64, n),
		Begins: make([]int64, n),
	}
}

func endsOfNumbers() []int64 { return []int64{math.MinInt64, math.MaxInt64} }

func TestCrewLimits(t *testing.T) {
	if impl.MaxClock != mostClock {
		t.Errorf("MaxClock %d", impl.MaxClock)
	}
}

func TestCrewOkOfRightOnes(t *testing.T) {
	checkCrewOk(t, "working", workingCrew(), true)
	checkCrewOk(t, "the zero crew", impl.Crew{}, false)
	for name, s := range storesInUse() {
		c := crewOf(2)
		c.Store = s
		checkCrewOk(t, name, c, true)
	}
}

func TestCrewOkCountsHands(t *testing.T) {
	for n := range 8 {
		checkCrewOk(t, "hands", crewOf(n), n >= 1 && n <= mostHands)
	}
	checkCrewOk(t, "very many hands", crewOf(100000), false)
}

// Each of the three lists is as long as it may be by itself.
func TestCrewOkHasAsManyOfEach(t *testing.T) {
	for hands := range mostHands + 2 {
		for jobs := range mostHands + 2 {
			for begins := range mostHands + 2 {
				c := crewOf(hands)
				c.Jobs, c.Begins = make([][]int64, jobs), make([]int64, begins)
				want := hands >= 1 && hands <= mostHands && jobs == hands && begins == hands
				checkCrewOk(t, "of each", c, want)
			}
		}
	}
}

func TestCrewOkCountsJobs(t *testing.T) {
	for who := range int64(mostHands) {
		for n := range 8 {
			for _, job := range []int64{0, 7} {
				c := changedCrew(workingCrew(), jobsAre(who, slices.Repeat([]int64{job}, n)...))
				checkCrewOk(t, "jobs", c, n <= mostJobs)
			}
		}
	}
}

func TestCrewOkAsksEachJob(t *testing.T) {
	for who := range int64(mostHands) {
		for at := range mostJobs {
			jobs := []int64{7, 0, 0, mostValue}
			for _, job := range []int64{0, 1, 2, mostValue - 1, mostValue} {
				jobs[at] = job
				checkCrewOk(t, "a job", changedCrew(workingCrew(), jobsAre(who, jobs...)), true)
			}
			for _, job := range outside(0, mostValue) {
				jobs[at] = job
				checkCrewOk(t, "no job", changedCrew(workingCrew(), jobsAre(who, jobs...)), false)
			}
		}
	}
}

func TestCrewOkBegins(t *testing.T) {
	for who := range int64(mostHands) {
		for _, clock := range []int64{6, 7, 10, mostClock} {
			c := changedCrew(workingCrew(), clockIs(clock))
			for _, begin := range []int64{0, 1, clock - 1, clock} {
				checkCrewOk(t, "a begin", changedCrew(c, beginIs(who, begin)), true)
			}
			for _, begin := range outside(0, clock) {
				checkCrewOk(t, "no begin", changedCrew(c, beginIs(who, begin)), false)
			}
		}
	}
}

func TestCrewOkClock(t *testing.T) {
	for n := 1; n <= mostHands; n++ {
		for _, clock := range []int64{0, 1, 2, mostClock - 1, mostClock} {
			checkCrewOk(t, "a clock", changedCrew(crewOf(n), clockIs(clock)), true)
			checkCrewOk(t, "a clock, begun then", changedCrew(crewOf(n), clockIs(clock), beginIs(0, clock)), true)
		}
		for _, clock := range outside(0, mostClock) {
			checkCrewOk(t, "no clock", changedCrew(crewOf(n), clockIs(clock)), false)
			checkCrewOk(t, "no clock, begun then", changedCrew(crewOf(n), clockIs(clock), beginIs(0, clock)), false)
		}
	}
}

func TestCrewOkAsksTheStore(t *testing.T) {
	for name, s := range wrongStores() {
		for n := 1; n <= mostHands; n++ {
			c := crewOf(n)
			c.Store = s
			checkCrewOk(t, name, c, false)
		}
	}
}

func TestCrewOkAsksEachHand(t *testing.T) {
	for who := range int64(mostHands) {
		c := changedCrew(workingCrew(), func(c *impl.Crew) { c.Store = usedStore() })
		c.Hands[2] = busyHand(impl.AtPut)
		for _, h := range everyAtRest() {
			checkCrewOk(t, "at rest", changedCrew(c, handIs(who, h)), true)
		}
		for at := int64(firstForPutting); at <= lastAt; at++ {
			h := busyHand(at)
			checkCrewOk(t, "under way", changedCrew(c, handIs(who, h)), true)
			h.Ring = 4
			checkCrewOk(t, "no such ring", changedCrew(c, handIs(who, h)), false)
			h.Ring, h.Spare = 1, 4
			checkCrewOk(t, "no such Spare", changedCrew(c, handIs(who, h)), false)
		}
		for _, h := range noHands() {
			checkCrewOk(t, "no hand", changedCrew(c, handIs(who, h)), false)
		}
	}
}

// A story is asked for by itself: its Events may well be later than the Clock,
// and of one who is not of this crew.
func TestCrewOkAsksEachEvent(t *testing.T) {
	for n := 1; n <= mostHands; n++ {
		checkCrewOk(t, "right events", changedCrew(crewOf(n), eventsAre(rightEvents()...)), true)
	}
	for at := range mostEvents {
		for _, e := range rightEvents() {
			l := slices.Repeat(rightEvents(), 2)
			l[at] = e
			checkCrewOk(t, "one right event", changedCrew(workingCrew(), eventsAre(l...)), true)
		}
		for _, e := range wrongEvents() {
			l := slices.Repeat(rightEvents(), 2)
			l[at] = e
			checkCrewOk(t, "one wrong event", changedCrew(workingCrew(), eventsAre(l...)), false)
		}
	}
}

func TestCrewOkCountsEvents(t *testing.T) {
	for n := range 40 {
		for _, e := range rightEvents() {
			c := changedCrew(workingCrew(), eventsAre(slices.Repeat([]impl.Event{e}, n)...))
			checkCrewOk(t, "events", c, n <= mostEvents)
		}
	}
}

// wrongCrews are workingCrew but for one thing each that is not right.
func wrongCrews() map[string]impl.Crew {
	change := map[string]crewChange{
		"zero":            func(c *impl.Crew) { *c = impl.Crew{} },
		"the store":       func(c *impl.Crew) { c.Store.First = 1 },
		"no store":        func(c *impl.Crew) { c.Store = impl.Store{} },
		"no hands":        func(c *impl.Crew) { c.Hands, c.Jobs, c.Begins = nil, nil, nil },
		"a hand too few":  func(c *impl.Crew) { c.Hands = c.Hands[:3] },
		"Jobs too few":    func(c *impl.Crew) { c.Jobs = c.Jobs[:3] },
		"Jobs too many":   func(c *impl.Crew) { c.Jobs = append(c.Jobs, nil) },
		"Begins too few":  func(c *impl.Crew) { c.Begins = c.Begins[:3] },
		"Begins too many": func(c *impl.Crew) { c.Begins = append(c.Begins, 0) },
		"five hands": func(c *impl.Crew) {
			c.Hands, c.Jobs, c.Begins = append(c.Hands, impl.Resting()), append(c.Jobs, nil), append(c.Begins, 0)
		},
		"a hand that is not right": handIs(0, impl.Hand{Spare: -2}),
		"one that does not fit":    handIs(3, impl.Hand{At: impl.AtFirst, Ring: 1, Spare: -1}),
		"five Jobs":                jobsAre(1, 1, 2, 3, 4, 5),
		"no Job":                   jobsAre(3, -1),
		"a Job too great":          jobsAre(0, 7, mostValue+1),
		"a Begin below 0":          beginIs(1, -1),
		"a Begin past the Clock":   beginIs(2, 11),
		"a Clock below 0":          func(c *impl.Crew) { c.Clock, c.Begins = -1, make([]int64, 4) },
		"a Clock too great":        clockIs(mostClock + 1),
		"17 Events":                eventsAre(slices.Repeat(rightEvents()[:1], mostEvents+1)...),
		"an Event":                 eventsAre(impl.Event{Reply: impl.ReGot}),
	}
	all := map[string]impl.Crew{}
	for name, wrong := range change {
		all[name] = changedCrew(workingCrew(), wrong)
	}
	return all
}

func TestCrewOkOfWrongOnes(t *testing.T) {
	for name, c := range wrongCrews() {
		checkCrewOk(t, name, c, false)
	}
	for _, number := range endsOfNumbers() {
		c := workingCrew()
		c.Clock, c.Begins[0], c.Jobs[0][0], c.Events[0].End = number, number, number, number
		checkCrewOk(t, "the ends of numbers", c, false)
	}
}

func newCrewOf(round, most int64, jobs ...[]int64) impl.Crew {
	c := crewOf(len(jobs))
	c.Store, c.Jobs = linkedStore(round, most, -1), copiedJobs(jobs)
	return c
}

func checkNewCrew(t *testing.T, round, most int64, jobs [][]int64, want bool) {
	t.Helper()
	got, is := impl.NewCrew(round, most, jobs)
	if !want {
		checkCrewAnd(t, "no new crew", got, is, impl.Crew{}, false)
		return
	}
	checkCrewAnd(t, "a new crew", got, is, newCrewOf(round, most, jobs...), true)
	checkCrewOk(t, "a new crew", got, true)
}

func TestNewCrewOfEveryRoundAndMost(t *testing.T) {
	rounds := append(outside(2, 8), 2, 3, 4, 5, 6, 7, 8)
	mosts := append(outside(1, mostRings), 1, 2, 15, mostRings)
	for _, round := range rounds {
		for _, most := range mosts {
			is := round >= 2 && round <= 8 && most >= 1 && most <= mostRings
			checkNewCrew(t, round, most, [][]int64{{7}, {0}}, is)
			checkNewCrew(t, round, most, [][]int64{nil}, is)
		}
	}
}

func TestNewCrewCountsJobs(t *testing.T) {
	for n := range 7 {
		is := n >= 1 && n <= mostHands
		checkNewCrew(t, 2, 2, make([][]int64, n), is)
		checkNewCrew(t, 2, 2, slices.Repeat([][]int64{{}}, n), is)
		checkNewCrew(t, 2, 2, slices.Repeat([][]int64{{1, 0, 2, 0}}, n), is)
	}
	checkNewCrew(t, 2, 2, nil, false)
	for who := range mostHands {
		for n := range 8 {
			jobs := [][]int64{{1}, nil, {0, 2}, {}}
			jobs[who] = slices.Repeat([]int64{9}, n)
			checkNewCrew(t, 3, 4, jobs, n <= mostJobs)
		}
	}
}

func TestNewCrewAsksEachJob(t *testing.T) {
	for who := range mostHands {
		for at := range mostJobs {
			jobs := slices.Repeat([][]int64{{1, 0, 2, 0}}, mostHands)
			jobs[who] = []int64{0, 3, 0, 4}
			for _, job := range []int64{0, 1, mostValue - 1, mostValue} {
				jobs[who][at] = job
				checkNewCrew(t, 2, 2, jobs, true)
			}
			for _, job := range outside(0, mostValue) {
				jobs[who][at] = job
				checkNewCrew(t, 2, 2, jobs, false)
			}
		}
	}
}

func TestNewCrewLeavesItsArgument(t *testing.T) {
	for _, job := range []int64{3, -3} {
		jobs := roomyJobs([][]int64{{1, 2}, nil, {job}, {0}})
		kept := copiedJobs(jobsWithRoom(jobs))
		got, _ := impl.NewCrew(2, 2, jobs)
		checkJobs(t, "the argument", jobsWithRoom(jobs), kept)
		spoilCrew(got)
		checkJobs(t, "the argument behind a change of the answer", jobsWithRoom(jobs), kept)
	}
	jobs := [][]int64{{1, 2}, nil, {3}, {0}}
	got, _ := impl.NewCrew(2, 2, jobs)
	second, _ := impl.NewCrew(2, 2, jobs)
	spoilCrew(got)
	spoilJobs(jobs)
	checkCrew(t, "the answer behind a change of the argument", second, newCrewOf(2, 2, []int64{1, 2}, nil, []int64{3}, []int64{0}))
}

func TestNewCrewSharesNoMemoryWithinAnAnswer(t *testing.T) {
	one := []int64{0, 5}
	got, _ := impl.NewCrew(2, 2, [][]int64{one, one, one[:1], one[1:]})
	checkCrew(t, "of one list", got, newCrewOf(2, 2, one, one, one[:1], one[1:]))
	checkCrewListsApart(t, "of one list", got)
	spoilCrew(got)
	checkList(t, "the argument", one, []int64{0, 5})
}
