package record

import "crumple/api"

// powers has the powers of -i, from the power 0 on.
var powers = [4]api.Gauss{{Re: 1}, {Im: -1}, {Re: -1}, {Im: 1}}

// The powers of -i by which a transform turns there and back: the power 3 of -i is i.
const (
	there = 1
	back  = 3
)

// maxPart is the greatest integer of a part of a panel.
const maxPart = 4 * api.MaxUnit

// Four returns the transform of four samples.
func Four(l [4]float32) ([4]complex64, api.Errno) {
	if e := firstError(l[:], CheckSample); e != api.OK {
		return [4]complex64{}, e
	}
	var whole [4]api.Gauss
	for n := range 4 {
		whole[n].Re = unit(l[n])
	}
	var p [4]complex64
	for k, z := range turned(whole, there) {
		p[k] = complex(sample(z.Re), sample(z.Im))
	}
	return p, api.OK
}

// Unfour returns the four samples of a transform.
func Unfour(p [4]complex64) ([4]float32, api.Errno) {
	if e := checkPanel(p); e != api.OK {
		return [4]float32{}, e
	}
	var l [4]float32
	// What is turned there and back is four times as large.
	for n, z := range turned(wholes(p), back) {
		if z.Im != 0 || z.Re%4 != 0 || within(z.Re/4, -api.MaxUnit, api.MaxUnit) != api.OK {
			return [4]float32{}, api.ErrForm
		}
		l[n] = sample(z.Re / 4)
	}
	return l, api.OK
}

// Cross returns the cross-spectrum of two panels.
func Cross(p, q [4]complex64) ([4]api.Gauss, api.Errno) {
	if e := first(checkPanel(p), checkPanel(q)); e != api.OK {
		return [4]api.Gauss{}, e
	}
	a, b := wholes(p), wholes(q)
	var spectrum [4]api.Gauss
	for k := range 4 {
		conjugate := api.Gauss{Re: b[k].Re, Im: -b[k].Im}
		spectrum[k] = product(a[k], conjugate)
	}
	return spectrum, api.OK
}

// checkPanel returns the first error of a panel, or OK.
func checkPanel(p [4]complex64) api.Errno {
	var l []float32
	for _, z := range p {
		l = append(l, real(z), imag(z))
	}
	return first(
		firstError(l, checkFinite),
		firstError(l, func(x float32) api.Errno { return checkSixteenths(x, maxPart) }),
	)
}

// wholes returns 16 times the elements of a panel.
func wholes(p [4]complex64) [4]api.Gauss {
	var l [4]api.Gauss
	for k, z := range p {
		l[k] = api.Gauss{Re: unit(real(z)), Im: unit(imag(z))}
	}
	return l
}

// turned returns at each k the sum of the elements n times a power of -i, to the power of k n.
func turned(l [4]api.Gauss, power int) [4]api.Gauss {
	var sums [4]api.Gauss
	for k := range 4 {
		for n := range 4 {
			z := product(l[n], powers[power*k*n%4])
			sums[k].Re += z.Re
			sums[k].Im += z.Im
		}
	}
	return sums
}

func product(a, b api.Gauss) api.Gauss {
	return api.Gauss{Re: a.Re*b.Re - a.Im*b.Im, Im: a.Re*b.Im + a.Im*b.Re}
}
