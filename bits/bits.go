// Package bits: how everything is laid down in words and in bytes: see doc/01-bits.md.
package bits
