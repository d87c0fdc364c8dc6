"""Whole numbers of 128 bits, signed and plain."""
