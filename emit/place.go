package emit

import "mortise/api"

// place is where a global stands in the memory: its offset, and as the imaginary part the number of bytes of an element.
type place complex128

func (p place) offset() int { return int(real(p)) }

func (p place) bytes() int { return int(imag(p)) }

// end is the offset behind so many elements. It is no int: sizes may be so great that their bytes, counted in ints, would begin anew at 0.
func (p place) end(elements int) float64 { return real(p) + imag(p)*float64(elements) }

// placeGlobals gives the globals their places, and is how many bytes they have together.
func (e *emitter) placeGlobals() float64 {
	total := 0.0
	for _, g := range e.Globals {
		p := place(complex(total, elementBytes(g.Type)))
		e.places = append(e.places, p)
		total = p.end(countElements(g))
	}
	return total
}

// elementBytes is the number of bytes of an element of a type.
func elementBytes(t int) float64 {
	switch t {
	case api.Char:
		return 1
	case api.Long:
		return 8
	}
	return 4
}

// countElements is how many elements a global has. A Size below 0 may be there, but no instruction can use such a global.
func countElements(g api.Global) int {
	if g.Size == 0 {
		return 1
	}
	return max(g.Size, 0)
}
