package metre

import (
	"strings"

	"canticle/api"
)

// least is the least cost of what stands behind a place, and how many choices have it; none, if ways is 0.
type least struct {
	cost, ways int
}

// more counts another one of that cost, in so many ways.
func (l *least) more(cost, ways int) {
	switch {
	case ways == 0:
	case l.ways == 0 || cost < l.cost:
		*l = least{cost, ways}
	case cost == l.cost:
		l.ways = min(most-l.ways, ways) + l.ways
	}
}

// reckon finds the least costs of the signs from each place on, by the feet from each one on and the end.
func reckon(all [][]api.Variant, signs string) [][]least {
	rows := make([][]least, len(all)+1)
	for k := range rows {
		rows[k] = make([]least, len(signs)+1)
	}
	rows[len(all)][len(signs)].ways = 1
	for k := len(all) - 1; k >= 0; k-- {
		for at := range rows[k] {
			for _, v := range all[k] {
				if strings.HasPrefix(signs[at:], v.Signs) {
					next := rows[k+1][at+len(v.Signs)]
					rows[k][at].more(v.Cost+next.cost, next.ways)
				}
			}
		}
	}
	return rows
}

// find is what reckon finds, if some choice has these signs.
func find(m api.Metre, signs string) ([][]api.Variant, [][]least, api.Errno) {
	if e := Check(m); e != api.OK {
		return nil, nil, e
	}
	if len(signs) > api.MaxFeet*mostSigns+mostEnd {
		return nil, nil, api.ErrNone
	}
	all := steps(m)
	rows := reckon(all, signs)
	if rows[0][0].ways == 0 {
		return nil, nil, api.ErrNone
	}
	return all, rows, api.OK
}

// Least: P13.9.
func Least(m api.Metre, signs string) (int, int, api.Errno) {
	_, rows, e := find(m, signs)
	if e != api.OK {
		return 0, 0, e
	}
	return rows[0][0].cost, rows[0][0].ways, api.OK
}

// First: P13.9.
func First(m api.Metre, signs string) (api.Pattern, api.Errno) {
	all, rows, e := find(m, signs)
	if e != api.OK {
		return api.Pattern{}, e
	}
	p := api.Pattern{Signs: signs, Cost: rows[0][0].cost}
	at := 0
feet:
	for k, l := range all {
		for n, v := range l {
			if !strings.HasPrefix(signs[at:], v.Signs) {
				continue
			}
			next := rows[k+1][at+len(v.Signs)]
			if next.ways > 0 && v.Cost+next.cost == rows[k][at].cost {
				p.Choice = append(p.Choice, n)
				at += len(v.Signs)
				continue feet
			}
		}
	}
	return p, api.OK
}
