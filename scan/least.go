package scan

import (
	"slices"

	"canticle/api"
	"canticle/line"
)

// least is what something costs at the least, and in how many ways it is had; in none, if ways is 0.
type least struct {
	cost, ways int
}

// more counts others that cost so much.
func (x *least) more(cost, ways int) {
	switch {
	case ways == 0:
	case x.ways == 0 || cost < x.cost:
		*x = least{cost, ways}
	case cost == x.cost:
		x.ways = add(x.ways, ways)
	}
}

// step leads from a place of a metre on, over a sign; the cost is that of the way that it begins, the other one what it costs if no word ends there.
type step struct {
	to     int
	sign   byte
	cost   int
	broken int
}

// places are the places of a metre: first those ahead of each foot, then that ahead of the end, that behind it, and all within feet and ends. From each one the steps that lead on.
func places(m api.Metre) [][]step {
	all := make([][]step, len(m.Feet)+2)
	for k := range len(m.Feet) + 1 {
		for _, v := range variants(m, k) {
			at := k
			for i := range len(v.Signs) {
				s := step{to: k + 1, sign: v.Signs[i]}
				if i == 0 {
					s.cost = v.Cost
				}
				if i+1 == len(v.Signs) {
					s.broken = breakCost(m, k)
				} else {
					s.to = len(all)
					all = append(all, nil)
				}
				all[at] = append(all[at], s)
				at = s.to
			}
		}
	}
	return all
}

// beat is a beat that is whole: its stress, and whether a word ends with it.
type beat struct {
	stress int
	ends   bool
}

// pending is what runs into a word: nothing, or a beat that is not whole yet, and its stress by then.
type pending struct {
	runs   bool
	stress int
}

// pendings are all that may be.
const pendings = 4

// number is a pending's number.
func (p pending) number() int {
	for n := range pendings {
		if p == pendingOf(n) {
			return n
		}
	}
	return 0
}

func pendingOf(n int) pending { return pending{runs: n > 0, stress: max(n-1, 0)} }

// scanner scans one line by one metre. Its rows are the least costs of all that stands behind each word's beginning, by what is pending there, and by the metre's places.
type scanner struct {
	line   *line.Line
	metre  api.Metre
	rates  api.Rates
	forms  [][]api.Said
	places [][]step
	rows   [][pendings][]least
}

func newScanner(l *line.Line, m api.Metre, r api.Rates) *scanner {
	s := &scanner{line: l, metre: m, rates: r, places: places(m)}
	for k := range l.Words() {
		forms, _ := l.Forms(k)
		s.forms = append(s.forms, forms)
	}
	n := len(s.forms)
	s.rows = make([][pendings][]least, n+1)
	for p := range pendings {
		s.rows[n][p] = make([]least, len(s.places))
	}
	ends := len(m.Feet)
	s.rows[n][0][ends].ways, s.rows[n][0][ends+1].ways = 1, 1
	for k := n - 1; k >= 0; k-- {
		for p := range pendings {
			s.rows[k][p] = s.row(k, pendingOf(p))
		}
	}
	return s
}

// least is the least cost of all scansions.
func (s *scanner) least() least { return s.rows[0][0][0] }

// row reckons a row of the word k.
func (s *scanner) row(k int, p pending) []least {
	row := make([]least, len(s.places))
	for _, c := range s.choices(k, p) {
		beats, next := s.speak(k, c, p)
		behind := s.rows[k+1][next.number()]
		for i := len(beats) - 1; i >= 0; i-- {
			behind = s.back(behind, beats[i])
		}
		cost := wordCost(s.rates, c)
		for at, x := range behind {
			row[at].more(x.cost+cost, x.ways)
		}
	}
	return row
}

// back reckons the row ahead of a beat.
func (s *scanner) back(behind []least, b beat) []least {
	row := make([]least, len(s.places))
	for at, steps := range s.places {
		for _, t := range steps {
			if x := behind[t.to]; x.ways > 0 {
				row[at].more(x.cost+s.stepCost(t, b), x.ways)
			}
		}
	}
	return row
}

func (s *scanner) stepCost(t step, b beat) int {
	n := t.cost + beatCost(s.rates, t.sign, b.stress)
	if !b.ends {
		n += t.broken
	}
	return n
}

// choices are the choices for the word k, in order, with what runs into it.
func (s *scanner) choices(k int, p pending) []api.Choice {
	var l []api.Choice
	for n, f := range s.forms[k] {
		first, last := f.Syllables[0], f.Syllables[len(f.Syllables)-1]
		if p.runs && first.Nucleus != first.From {
			continue
		}
		lights := []bool{false, true}
		if len(f.Syllables) != 1 || last.Stress != api.StressMain {
			lights = lights[:1]
		}
		for _, light := range lights {
			l = append(l, api.Choice{Form: n, Light: light})
			if s.line.Near(k) && last.To == last.Nucleus+1 {
				l = append(l, api.Choice{Form: n, Light: light, Run: true})
			}
		}
	}
	return l
}

// speak tells the beats that are whole with the word k, and what runs on from it.
func (s *scanner) speak(k int, c api.Choice, p pending) ([]beat, pending) {
	var beats []beat
	all := s.forms[k][c.Form].Syllables
	for i, y := range all {
		stress := y.Stress
		if c.Light {
			stress = api.StressNone
		}
		if i == 0 && p.runs {
			stress = max(stress, p.stress)
		}
		ends := i+1 == len(all)
		if ends && c.Run {
			return beats, pending{runs: true, stress: stress}
		}
		beats = append(beats, beat{stress: stress, ends: ends})
	}
	return beats, pending{}
}

// on reckons the costs behind a beat, by places, from those ahead of it; below 0 is what is not come to.
func (s *scanner) on(ahead []int, b beat) []int {
	row := nowhere(len(s.places))
	for at, steps := range s.places {
		for _, t := range steps {
			if ahead[at] < 0 {
				continue
			}
			if n := ahead[at] + s.stepCost(t, b); row[t.to] < 0 || n < row[t.to] {
				row[t.to] = n
			}
		}
	}
	return row
}

func nowhere(n int) []int { return slices.Repeat([]int{-1}, n) }

// each tells all scansions that cost the least: reading by reading, of which as much is said only as can still cost so little; and of each reading way by way.
func (s *scanner) each(yield func(api.Scansion) bool) {
	best := s.least()
	if best.ways == 0 {
		return
	}
	reading := make(api.Reading, len(s.forms))
	var words func(k int, p pending, costs []int) bool
	words = func(k int, p pending, costs []int) bool {
		if k == len(s.forms) {
			return s.ways(reading, best.cost, yield)
		}
	choices:
		for _, c := range s.choices(k, p) {
			beats, next := s.speak(k, c, p)
			behind := slices.Clone(costs)
			for _, b := range beats {
				behind = s.on(behind, b)
			}
			own := wordCost(s.rates, c)
			for at, x := range s.rows[k+1][next.number()] {
				if x.ways == 0 || behind[at] < 0 || behind[at]+own+x.cost != best.cost {
					continue
				}
				for i, n := range behind {
					if n >= 0 {
						behind[i] = n + own
					}
				}
				reading[k] = c
				if !words(k+1, next, behind) {
					return false
				}
				continue choices
			}
		}
		return true
	}
	start := nowhere(len(s.places))
	start[0] = 0
	words(0, pending{}, start)
}

// ways tells the ways with which a reading costs so much, which is the least; false, if no more is wanted.
func (s *scanner) ways(reading api.Reading, cost int, yield func(api.Scansion) bool) bool {
	told, _ := s.line.Beats(reading)
	var beats []beat
	for _, b := range told {
		beats = append(beats, beat{stress: b.Stress, ends: b.Ends})
	}
	rows := [][]least{s.rows[len(s.forms)][0]}
	for i := len(beats) - 1; i >= 0; i-- {
		rows = append(rows, s.back(rows[len(rows)-1], beats[i]))
	}
	slices.Reverse(rows)
	left := cost
	for _, c := range reading {
		left -= wordCost(s.rates, c)
	}
	choice := make([]int, len(s.metre.Feet)+1)
	var feet func(k, at, left int) bool
	feet = func(k, at, left int) bool {
		if k == len(choice) {
			return yield(api.Scansion{Reading: slices.Clone(reading), Choice: slices.Clone(choice), Cost: cost})
		}
	variants:
		for n, v := range variants(s.metre, k) {
			own := v.Cost
			for i := range len(v.Signs) {
				if at+i == len(beats) {
					continue variants
				}
				own += beatCost(s.rates, v.Signs[i], beats[at+i].stress)
			}
			to := at + len(v.Signs)
			if v.Signs != "" && !beats[to-1].ends {
				own += breakCost(s.metre, k)
			}
			if x := s.behind(rows[to], k, to == len(beats)); x.ways == 0 || own+x.cost != left {
				continue variants
			}
			choice[k] = n
			if !feet(k+1, to, left-own) {
				return false
			}
		}
		return true
	}
	return feet(0, 0, left)
}

// behind is what all costs that stands behind the foot k; behind the end nothing does, if the beats are all.
func (s *scanner) behind(row []least, k int, all bool) least {
	if k < len(s.metre.Feet) {
		return row[k+1]
	}
	if all {
		return least{ways: 1}
	}
	return least{}
}
