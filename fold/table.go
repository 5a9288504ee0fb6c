package fold

import (
	"iter"

	"canticle/class"
)

// marks are the marks that joined letters are made with.
const marks = "\u0300\u0301\u0302\u0303\u0304\u0306\u0307\u0308\u030a\u030b\u030c\u0327\u0328"

// row is what letters a mark makes: each base, and the joined letter behind it.
func row(mark rune) string {
	switch mark {
	case 0x300:
		return "A\u00c0E\u00c8I\u00ccO\u00d2U\u00d9a\u00e0e\u00e8i\u00eco\u00f2u\u00f9\u0415\u0400\u0418\u040d\u0435\u0450\u0438\u045d"
	case 0x301:
		return "A\u00c1E\u00c9I\u00cdO\u00d3U\u00daY\u00dda\u00e1e\u00e9i\u00edo\u00f3u\u00fay\u00fdC\u0106L\u0139N\u0143R\u0154S\u015aZ\u0179c\u0107l\u013an\u0144r\u0155s\u015bz\u017a" +
			"\u0391\u0386\u0395\u0388\u0397\u0389\u0399\u038a\u039f\u038c\u03a5\u038e\u03a9\u038f\u03b1\u03ac\u03b5\u03ad\u03b7\u03ae\u03b9\u03af\u03bf\u03cc\u03c5\u03cd\u03c9\u03ce\u0413\u0403\u041a\u040c\u0433\u0453\u043a\u045c\u03ca\u0390\u03cb\u03b0"
	case 0x302:
		return "A\u00c2E\u00caI\u00ceO\u00d4U\u00dba\u00e2e\u00eai\u00eeo\u00f4u\u00fbC\u0108G\u011cH\u0124J\u0134S\u015cW\u0174Y\u0176c\u0109g\u011dh\u0125j\u0135s\u015dw\u0175y\u0177"
	case 0x303:
		return "A\u00c3N\u00d1O\u00d5a\u00e3n\u00f1o\u00f5I\u0128U\u0168i\u0129u\u0169"
	case 0x304:
		return "A\u0100E\u0112I\u012aO\u014cU\u016aa\u0101e\u0113i\u012bo\u014du\u016b"
	case 0x306:
		return "A\u0102E\u0114G\u011eI\u012cO\u014eU\u016ca\u0103e\u0115g\u011fi\u012do\u014fu\u016d\u0418\u0419\u0423\u040e\u0438\u0439\u0443\u045e"
	case 0x307:
		return "C\u010aE\u0116G\u0120I\u0130Z\u017bc\u010be\u0117g\u0121z\u017c"
	case 0x308:
		return "A\u00c4E\u00cbI\u00cfO\u00d6U\u00dca\u00e4e\u00ebi\u00efo\u00f6u\u00fcy\u00ffY\u0178\u0415\u0401\u0406\u0407\u0435\u0451\u0456\u0457\u0399\u03aa\u03a5\u03ab\u03b9\u03ca\u03c5\u03cb"
	case 0x30A:
		return "A\u00c5U\u016ea\u00e5u\u016f"
	case 0x30B:
		return "O\u0150U\u0170o\u0151u\u0171"
	case 0x30C:
		return "C\u010cD\u010eE\u011aL\u013dN\u0147R\u0158S\u0160T\u0164Z\u017dc\u010dd\u010fe\u011bl\u013en\u0148r\u0159s\u0161t\u0165z\u017e"
	case 0x327:
		return "C\u00c7G\u0122K\u0136L\u013bN\u0145R\u0156S\u015eT\u0162c\u00e7g\u0123k\u0137l\u013cn\u0146r\u0157s\u015ft\u0163"
	case 0x328:
		return "A\u0104E\u0118I\u012eU\u0172a\u0105e\u0119i\u012fu\u0173"
	}
	return ""
}

// joined goes over the joined letters, each with the base and the mark of which it is made.
func joined() iter.Seq2[rune, [2]rune] {
	return func(yield func(rune, [2]rune) bool) {
		for _, mark := range marks {
			var base rune
			for _, r := range row(mark) {
				if base == 0 {
					base = r
					continue
				}
				if !yield(r, [2]rune{base, mark}) {
					return
				}
				base = 0
			}
		}
	}
}

// Join: P4.1.
func Join(base, mark rune) (rune, bool) {
	pair := [2]rune{base, mark}
	for r, made := range joined() {
		if made == pair {
			return r, true
		}
	}
	return 0, false
}

// Split: P4.1.
func Split(r rune) []rune {
	base, mark := parts(r)
	if mark == 0 {
		return []rune{r}
	}
	return append(Split(base), mark)
}

// parts are the base and the mark of a joined letter; itself and 0 of what is none.
func parts(r rune) (base, mark rune) {
	// No joined letter stands outside of these; most letters of a text do.
	if r < 0xC0 || r > 0x45E {
		return r, 0
	}
	for j, made := range joined() {
		if j == r {
			return made[0], made[1]
		}
	}
	return r, 0
}

// Low: P4.1.
func Low(r rune) bool {
	switch {
	case r >= 0x316 && r <= 0x319, r >= 0x31C && r <= 0x320, r >= 0x323 && r <= 0x333, r >= 0x339 && r <= 0x33C:
		return true
	case r >= 0x345 && r <= 0x349, r == 0x34D, r == 0x34E, r >= 0x353 && r <= 0x356, r == 0x359, r == 0x35A:
		return true
	}
	return false
}

// folded is how a base stands in the folded form.
func folded(r rune) string {
	small := class.Lower(r)
	switch small {
	case 0xDF:
		return "ss"
	case 0xE6:
		return "ae"
	case 0xF8:
		return "o"
	case 0xF0, 0x111:
		return "d"
	case 0xFE:
		return "th"
	case 0x127:
		return "h"
	case 0x131:
		return "i"
	case 0x133:
		return "ij"
	case 0x138:
		return "q"
	case 0x140, 0x142:
		return "l"
	case 0x149:
		return "n"
	case 0x14B:
		return "ng"
	case 0x153:
		return "oe"
	case 0x167:
		return "t"
	case 0x17F:
		return "s"
	case 0x3C2:
		return "\u03c3"
	}
	return string(small)
}
