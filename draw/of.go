package draw

// A draw chooses one of so many hundredths of a base, from the least one up to all of them.
const (
	whole   = 100
	least   = 75
	choices = whole - least + 1
)

// Of answers base, made less by n: three quarters of it up to all of it, but at least 1; 0, if base is not above 0.
func Of(base int, n uint32) int {
	if base <= 0 {
		return 0
	}
	part := least + int(n%choices)
	// Hundreds and what is above them apart: all of base times part may be above the greatest int.
	return max(base/whole*part+base%whole*part/whole, 1)
}

// jitter takes no draw where none is needed: it is still there for the next one.
func jitter(base int, take func() (uint32, bool)) int {
	if base <= 0 {
		return 0
	}
	if n, is := take(); is {
		return Of(base, n)
	}
	return base
}
