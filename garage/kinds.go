package garage

// The kinds of acts.
const (
	openKind    = "open"
	closeKind   = "close"
	insertKind  = "insert"
	removeKind  = "remove"
	enterKind   = "enter"
	leaveKind   = "leave"
	armKind     = "arm"
	disarmKind  = "disarm"
	shootKind   = "shoot"
	measureKind = "measure"
)

// kindWords is the kinds in their order.
var kindWords = [...]string{openKind, closeKind, insertKind, removeKind, enterKind, leaveKind, armKind, disarmKind, shootKind, measureKind}

// The indices of the reasons, and how many there are.
const (
	tickReason = iota
	stateReason
	armedReason
	doorReason
	peopleReason
	keyReason
	waitReason
	reasonCount
)

// reasonWords is the words of the reasons in their order.
var reasonWords = [reasonCount]string{"tick", "state", "armed", "door", "people", "key", "wait"}

// rules says, for each reason, when a state has it against an act; a reason without a function never applies.
type rules [reasonCount]func(State, Act) bool

// form is how acts of a kind are written.
type form struct {
	// numbered is whether they have a number of their own; the number of all others is 0.
	numbered bool
	// numbers returns how many numbers there are, from 0 on.
	numbers func(Hall) int
	// fields returns the integers that follow the kind on a line.
	fields func(*Act) []*int
}

// kind is a kind of acts: how they are written, why they are not permitted, and what they change beside the tick.
type kind struct {
	form
	rules
	change func(*State, Hall, Act)
}

// kinds returns all kinds by their words.
func kinds() map[string]kind {
	door := form{numbered: true, numbers: func(h Hall) int { return h.Doors }, fields: withNumber}
	key := form{numbered: true, numbers: func(Hall) int { return len(bothKeys()) }, fields: withNumber}
	hall := form{numbers: one, fields: withTick}
	measured := form{numbers: one, fields: withValues}
	return map[string]kind{
		openKind:   {door, rules{stateReason: State.isOpen, armedReason: State.isArmed, waitReason: State.isHeld}, opened(true)},
		closeKind:  {door, rules{stateReason: State.isClosed}, opened(false)},
		insertKind: {key, rules{stateReason: State.isInserted}, inserted(true)},
		removeKind: {key, rules{stateReason: State.isRemoved, armedReason: State.isArmed}, inserted(false)},
		enterKind: {
			door,
			rules{stateReason: State.isFull, armedReason: State.isArmed, doorReason: State.isClosed, waitReason: State.isHeld},
			passed(1),
		},
		leaveKind: {door, rules{stateReason: State.isEmpty, doorReason: State.isClosed}, passed(-1)},
		armKind: {
			hall,
			rules{stateReason: State.isArmed, doorReason: State.hasOpenDoor, peopleReason: State.hasPeople, keyReason: State.lacksKey, waitReason: State.isHeld},
			armed(true),
		},
		disarmKind:  {hall, rules{stateReason: State.isDisarmed}, armed(false)},
		shootKind:   {hall, rules{stateReason: State.isDisarmed}, (*State).shoot},
		measureKind: {measured, rules{stateReason: State.isUnshot}, (*State).measure},
	}
}

// one is the numbers of acts that have none of their own.
func one(Hall) int {
	return 1
}

func withTick(a *Act) []*int {
	return []*int{&a.Tick}
}

func withNumber(a *Act) []*int {
	return []*int{&a.Tick, &a.Number}
}

func withValues(a *Act) []*int {
	return []*int{&a.Tick, &a.Values[0], &a.Values[1], &a.Values[2]}
}

// reasons returns the reasons why an act of a kind is not permitted in a state.
func (k kind) reasons(s State, a Act) []string {
	applying := k.rules
	applying[tickReason] = State.isPast
	var words []string
	for i, applies := range applying {
		if applies != nil && applies(s, a) {
			words = append(words, reasonWords[i])
		}
	}
	return words
}

// after returns the state after a permitted act of a kind.
func (k kind) after(s State, h Hall, a Act) State {
	s.Tick = a.Tick
	k.change(&s, h, a)
	return s
}
