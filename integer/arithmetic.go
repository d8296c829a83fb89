package integer

import (
	"domino/api"
	"domino/natural"
)

// Add returns a + b; ErrLong if it is too long.
func Add(a, b api.Int) (api.Int, api.Errno) {
	if !Valid(a) || !Valid(b) {
		return api.Int{}, api.ErrForm
	}
	if a.Neg == b.Neg {
		abs, err := natural.Add(a.Abs, b.Abs)
		return signed(a.Neg, abs), err
	}
	// The sum has the sign of the greater magnitude.
	if natural.Cmp(a.Abs, b.Abs) < 0 {
		a, b = b, a
	}
	abs, err := natural.Sub(a.Abs, b.Abs)
	return signed(a.Neg, abs), err
}

// Sub returns a - b; ErrLong if it is too long.
func Sub(a, b api.Int) (api.Int, api.Errno) {
	if !Valid(a) || !Valid(b) {
		return api.Int{}, api.ErrForm
	}
	return Add(a, Neg(b))
}

// Mul returns a * b; ErrLong if it is too long.
func Mul(a, b api.Int) (api.Int, api.Errno) {
	if !Valid(a) || !Valid(b) {
		return api.Int{}, api.ErrForm
	}
	abs, err := natural.Mul(a.Abs, b.Abs)
	return signed(a.Neg != b.Neg, abs), err
}

// DivMod returns the quotient q and the remainder r with a = q b + r and 0 <= r < |b|; ErrZero if b is 0.
func DivMod(a, b api.Int) (api.Int, api.Nat, api.Errno) {
	if !Valid(a) || !Valid(b) {
		return api.Int{}, "", api.ErrForm
	}
	q, r, err := natural.DivMod(a.Abs, b.Abs)
	if err != api.OK {
		return api.Int{}, "", err
	}
	// The magnitudes are divided downwards. A negative a needs the next quotient, unless the remainder is 0; that is not too long, as |b| is then at least 2.
	correct := func(neg bool, q, r api.Nat) (api.Int, api.Nat) {
		if neg && r != "" {
			q, _ = natural.Add(q, natural.Of(1))
			r, _ = natural.Sub(b.Abs, r)
		}
		return signed(neg != b.Neg, q), r
	}
	quotient, rest := correct(a.Neg, q, r)
	return quotient, rest, api.OK
}

// Mod returns the remainder of the Euclidean division of a by m; ErrZero if m is 0.
func Mod(a api.Int, m api.Nat) (api.Nat, api.Errno) {
	if !Valid(a) || !natural.Valid(m) {
		return "", api.ErrForm
	}
	_, r, err := DivMod(a, From(m))
	return r, err
}

// Divide returns the quotient of a and b; ErrZero if b is 0, then ErrArg if b does not divide a.
func Divide(a, b api.Int) (api.Int, api.Errno) {
	q, r, err := DivMod(a, b)
	switch {
	case err != api.OK:
		return api.Int{}, err
	case r != "":
		return api.Int{}, api.ErrArg
	}
	return q, api.OK
}

// Extended returns the greatest common divisor g of a and b, and x and y with a x + b y = g: 1 and 0 if b is 0, and the least x that is not negative otherwise.
func Extended(a, b api.Nat) (api.Nat, api.Int, api.Int, api.Errno) {
	if !natural.Valid(a) || !natural.Valid(b) {
		return "", api.Int{}, api.Int{}, api.ErrForm
	}
	// The magnitudes of all x and y are at most those of b and a, so nothing becomes too long.
	rest := [2]api.Nat{a, b}
	xs := [2]api.Int{Of(1), Of(0)}
	ys := [2]api.Int{Of(0), Of(1)}
	for rest[1] != "" {
		q, r, _ := natural.DivMod(rest[0], rest[1])
		rest = [2]api.Nat{rest[1], r}
		xs = advance(xs, From(q))
		ys = advance(ys, From(q))
	}
	x, y := xs[0], ys[0]
	if b != "" {
		x, y = reduce(x, y, a, b, rest[0])
	}
	return rest[0], x, y, api.OK
}

// advance returns the pair of coefficients after p in the Euclidean algorithm with the quotient q.
func advance(p [2]api.Int, q api.Int) [2]api.Int {
	product, _ := Mul(q, p[1])
	next, _ := Sub(p[0], product)
	return [2]api.Int{p[1], next}
}

// reduce returns the remainder of x modulo b / g, and the y that belongs to it, where g = a x + b y divides a and b.
func reduce(x, y api.Int, a, b, g api.Nat) (api.Int, api.Int) {
	period, _, _ := natural.DivMod(b, g)
	factor, _, _ := natural.DivMod(a, g)
	k, r, _ := DivMod(x, From(period))
	change, _ := Mul(k, From(factor))
	y, _ = Add(y, change)
	return From(r), y
}
