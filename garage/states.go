package garage

// bothKeys returns the keys with which a hall may be armed.
func bothKeys() [2]bool {
	return [2]bool{true, true}
}

// first returns the state before all acts.
func first() State {
	return State{Shot: None}
}

// isPast reports whether an act comes before the state.
func (s State) isPast(a Act) bool {
	return a.Tick < s.Tick
}

func (s State) isOpen(a Act) bool {
	return s.Open[a.Number]
}

func (s State) isClosed(a Act) bool {
	return !s.Open[a.Number]
}

func (s State) isInserted(a Act) bool {
	return s.Keys[a.Number]
}

func (s State) isRemoved(a Act) bool {
	return !s.Keys[a.Number]
}

func (s State) isFull(Act) bool {
	return s.People >= MaxPeople
}

func (s State) isEmpty(Act) bool {
	return s.People == 0
}

func (s State) hasPeople(Act) bool {
	return s.People > 0
}

func (s State) isArmed(Act) bool {
	return s.Armed
}

func (s State) isDisarmed(Act) bool {
	return !s.Armed
}

// isUnshot reports whether there was no shot.
func (s State) isUnshot(Act) bool {
	return s.Shot == None
}

// hasOpenDoor reports whether a door is open.
func (s State) hasOpenDoor(Act) bool {
	count := 0
	for door := range MaxDoors {
		if s.Open[door] {
			count++
		}
	}
	return count > 0
}

// lacksKey reports whether a key is not inserted.
func (s State) lacksKey(Act) bool {
	return s.Keys != bothKeys()
}

// isHeld reports whether people are not admitted at the tick of an act.
func (s State) isHeld(a Act) bool {
	return s.Admitted == None || s.Admitted > a.Tick
}

// opened returns what opens or closes a door.
func opened(open bool) func(*State, Hall, Act) {
	return func(s *State, _ Hall, a Act) { s.Open[a.Number] = open }
}

// inserted returns what inserts or removes a key.
func inserted(inserted bool) func(*State, Hall, Act) {
	return func(s *State, _ Hall, a Act) { s.Keys[a.Number] = inserted }
}

// passed returns what adds or takes away people.
func passed(count int) func(*State, Hall, Act) {
	return func(s *State, _ Hall, _ Act) { s.People += count }
}

// armed returns what arms or disarms a hall.
func armed(armed bool) func(*State, Hall, Act) {
	return func(s *State, _ Hall, _ Act) { s.Armed = armed }
}

// shoot holds the admission from a shot on.
func (s *State) shoot(_ Hall, a Act) {
	s.Armed = false
	s.Shot = a.Tick
	s.Admitted = None
}

// measure sets the admission by what was measured after the last shot.
func (s *State) measure(h Hall, a Act) {
	s.Admitted = max(s.Shot+h.Base, a.Tick+h.wait(a.Values))
}
