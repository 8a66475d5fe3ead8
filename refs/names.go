package refs

import "cmp"

// signOf is the sign of a name (0: it is none). There are too many names for one table or one switch.
func signOf(name string) rune {
	return cmp.Or(shortSign(name), markSign(name), letterSign(name), wideSign(name))
}

// shortSign is that of a name that may stand without a ; behind it.
func shortSign(name string) rune {
	switch name {
	case "amp":
		return 0x26
	case "lt":
		return 0x3C
	case "gt":
		return 0x3E
	case "quot":
		return 0x22
	case "nbsp":
		return 0xA0
	case "copy":
		return 0xA9
	case "reg":
		return 0xAE
	}
	return 0
}

// markSign is that of another sign below 100 (hexadecimal) that is no letter.
func markSign(name string) rune {
	switch name {
	case "apos":
		return 0x27
	case "cent":
		return 0xA2
	case "pound":
		return 0xA3
	case "yen":
		return 0xA5
	case "sect":
		return 0xA7
	case "deg":
		return 0xB0
	case "plusmn":
		return 0xB1
	case "para":
		return 0xB6
	case "middot":
		return 0xB7
	case "laquo":
		return 0xAB
	case "raquo":
		return 0xBB
	case "frac12":
		return 0xBD
	case "times":
		return 0xD7
	case "divide":
		return 0xF7
	}
	return 0
}

// letterSign is that of a letter.
func letterSign(name string) rune {
	switch name {
	case "agrave":
		return 0xE0
	case "aacute":
		return 0xE1
	case "acirc":
		return 0xE2
	case "auml":
		return 0xE4
	case "aring":
		return 0xE5
	case "aelig":
		return 0xE6
	case "ccedil":
		return 0xE7
	case "egrave":
		return 0xE8
	case "eacute":
		return 0xE9
	case "ecirc":
		return 0xEA
	case "iacute":
		return 0xED
	case "ntilde":
		return 0xF1
	case "oacute":
		return 0xF3
	case "ouml":
		return 0xF6
	case "oslash":
		return 0xF8
	case "uacute":
		return 0xFA
	case "uuml":
		return 0xFC
	case "szlig":
		return 0xDF
	case "Auml":
		return 0xC4
	case "Ouml":
		return 0xD6
	case "Uuml":
		return 0xDC
	case "Eacute":
		return 0xC9
	}
	return 0
}

// wideSign is that of a sign above FF (hexadecimal).
func wideSign(name string) rune {
	switch name {
	case "ndash":
		return 0x2013
	case "mdash":
		return 0x2014
	case "lsquo":
		return 0x2018
	case "rsquo":
		return 0x2019
	case "ldquo":
		return 0x201C
	case "rdquo":
		return 0x201D
	case "bull":
		return 0x2022
	case "hellip":
		return 0x2026
	case "euro":
		return 0x20AC
	case "trade":
		return 0x2122
	case "larr":
		return 0x2190
	case "rarr":
		return 0x2192
	case "hearts":
		return 0x2665
	}
	return 0
}
