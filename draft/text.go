package draft

import (
	"strconv"
	"strings"

	"canticle/api"
	"canticle/edit"
)

// change is the printed form of a draft's change.
func (h *History) change(k int) string {
	d := h.drafts[k]
	base := ""
	if len(d.Parents) > 0 {
		base = h.drafts[d.Parents[0]].text
	}
	steps, _ := Change(base, d.text)
	text, _ := edit.Print(steps)
	return text
}

// Print: P28.10.
func (h *History) Print() string {
	var out []byte
	for k := range h.Len() {
		out = append(out, "draft "+strconv.Itoa(h.drafts[k].Hand)...)
		for _, p := range h.drafts[k].Parents {
			out = append(out, " "+strconv.Itoa(p)...)
		}
		out = append(out, ':')
		if c := h.change(k); c != "" {
			out = append(out, " "+c...)
		}
		out = append(out, '\n')
	}
	for name, head := range h.Branches() {
		out = append(out, "branch "+name+" "+strconv.Itoa(head)+"\n"...)
	}
	return string(out)
}

func bad(e api.Errno, at int) api.Spot { return api.Spot{Err: e, At: at} }

// Read: P28.10.
func Read(text string) (*History, api.Spot) {
	if len(text) > api.MaxPrint {
		return nil, bad(api.ErrLong, api.MaxPrint)
	}
	h := &History{branches: map[string]int{}}
	for at := 0; at < len(text); {
		line, _, _ := strings.Cut(text[at:], "\n")
		read := h.readDraft
		if strings.HasPrefix(line, "branch ") {
			read = h.readBranch
		}
		if wrong := read(line); wrong.Err != api.OK {
			return nil, bad(wrong.Err, at+wrong.At)
		}
		at += len(line) + 1
	}
	if len(h.drafts) == 0 {
		return nil, bad(api.ErrHistory, len(text))
	}
	return h, api.Spot{}
}

// number reads a number that is none below 0.
func number(s string) (int, bool) {
	n, err := strconv.Atoi(s)
	return n, err == nil && n >= 0 && len(s) <= 18 && strconv.Itoa(n) == s
}

// numbers reads numbers with a blank between each two.
func numbers(s string) ([]int, bool) {
	var l []int
	for _, w := range strings.Split(s, " ") {
		n, ok := number(w)
		if !ok {
			return nil, false
		}
		l = append(l, n)
	}
	return l, true
}

// readBranch reads a branch's line.
func (h *History) readBranch(line string) api.Spot {
	l := strings.Split(line, " ")
	if len(l) != 3 || !isName(l[1]) {
		return bad(api.ErrHistory, 0)
	}
	head, ok := number(l[2])
	if _, is := h.branches[l[1]]; is || !ok || head >= len(h.drafts) {
		return bad(api.ErrHistory, 0)
	}
	if len(h.branches) >= api.MaxBranches {
		return bad(api.ErrLong, 0)
	}
	h.branches[l[1]] = head
	return api.Spot{}
}

// readDraft reads a draft's line.
func (h *History) readDraft(line string) api.Spot {
	wrong := bad(api.ErrHistory, 0)
	rest, is := strings.CutPrefix(line, "draft ")
	head, change, has := strings.Cut(rest, ":")
	l, ok := numbers(head)
	if !is || !has || !ok || change != "" && change[0] != ' ' || len(h.branches) > 0 || len(l) > 3 || (len(l) == 1) != (len(h.drafts) == 0) {
		return wrong
	}
	base := ""
	for k, p := range l[1:] {
		if p >= len(h.drafts) {
			return wrong
		}
		if k == 0 {
			base = h.drafts[p].text
		}
	}
	if len(h.drafts) >= api.MaxPast {
		return bad(api.ErrLong, 0)
	}
	told := strings.TrimPrefix(change, " ")
	steps, spot := edit.Read(told)
	if spot.Err != api.OK {
		return bad(spot.Err, len(line)-len(told)+spot.At)
	}
	text, e := edit.Apply(base, steps)
	if e != api.OK || change == " " {
		return wrong
	}
	h.drafts = append(h.drafts, entry{api.Draft{Hand: l[0], Parents: l[1:]}, text})
	if h.change(len(h.drafts)-1) != told {
		return wrong
	}
	return api.Spot{}
}
