import PyProof.Rows.All
import KE.OsGo
import KE.OsArgs
import PySem.Challenge.RW_widewhole_s07_whole
set_option Elab.async false
namespace My
open PySem
theorem p127 : (2:Int) ^ 127 = 170141183460469231731687303715884105728 := by decide
theorem p127n : (2:Nat) ^ 127 = 170141183460469231731687303715884105728 := by decide
theorem W_lit : Sf02.W = 340282366920938463463374607431768211456 := by decide
/- bytes, the lowest first -/
def by8 (z : Int) (n : Nat) : List Int := (List.range n).map fun (k : Nat) => z / 256 ^ k % 256
theorem told_le (n k : Nat) : Sf02Neutral.bytesTold (Sf02.le k n) = by8 (n : Int) k := by
  unfold Sf02Neutral.bytesTold Sf02.le by8
  rw [List.map_map]
  apply List.map_congr_left
  intro i _
  show ((UInt8.ofNat (n / 256 ^ i % 256)).toNat : Int) = _
  have e : (UInt8.ofNat (n / 256 ^ i % 256)).toNat = n / 256 ^ i % 256 := by
    rw [UInt8.toNat_ofNat']; exact Nat.mod_mod _ _
  rw [e]; simp
theorem pmod (z : Int) {p m : Int} (hp : 0 < p) (hm : 0 < m) : (z % (p * m)) / p = z / p % m := by
  have hne : p ≠ 0 := by omega
  have e : z = z % (p * m) + p * (m * (z / (p * m))) := by
    have := Int.emod_add_mul_ediv z (p * m)
    rw [Int.mul_assoc] at this; omega
  have e2 : z / p = (z % (p * m)) / p + m * (z / (p * m)) := by
    conv => lhs; rw [e]
    rw [Int.add_mul_ediv_left _ _ hne]
  have h0 : 0 ≤ z % (p * m) := Int.emod_nonneg _ (by have := Int.mul_pos hp hm; omega)
  have h1 : z % (p * m) < p * m := Int.emod_lt_of_pos _ (Int.mul_pos hp hm)
  rw [e2, Int.add_mul_emod_self_left, Int.emod_eq_of_lt (Int.ediv_nonneg h0 (by omega)) (Int.ediv_lt_of_lt_mul hp (by rw [Int.mul_comm m p]; exact h1))]
theorem by8_mod (z : Int) (n : Nat) : by8 (z % 256 ^ n) n = by8 z n := by
  unfold by8
  apply List.map_congr_left
  intro k hk
  have hk' : k < n := List.mem_range.mp hk
  have e : (256:Int) ^ n = 256 ^ k * 256 ^ (n - k) := by rw [← Int.pow_add]; congr 1; omega
  have e3 : (256:Int) ^ (n - k) = 256 * 256 ^ (n - k - 1) := by
    have : n - k = (n - k - 1) + 1 := by omega
    conv => lhs; rw [this, Int.pow_succ]
    rw [Int.mul_comm]
  rw [e, pmod z (Int.pow_pos (by decide)) (Int.pow_pos (by decide)), e3, Int.emod_emod_of_dvd _ ⟨_, rfl⟩]
theorem told_bits (z : Int) : Sf02Neutral.bytesTold (Sf02.le 16 (Sf02.bits z)) = by8 z 16 := by
  rw [told_le]
  have e : ((Sf02.bits z : Nat) : Int) = z % 256 ^ 16 := by
    unfold Sf02.bits
    rw [W_lit]
    have : (256:Int) ^ 16 = 340282366920938463463374607431768211456 := by decide
    rw [this]; omega
  rw [e, by8_mod]
theorem by8_congr {z y : Int} {n : Nat} (h : z % 256 ^ n = y % 256 ^ n) : by8 z n = by8 y n := by
  rw [← by8_mod z, h, by8_mod]

def sgn (x : Int) : Int := if 170141183460469231731687303715884105728 ≤ x then x - 340282366920938463463374607431768211456 else x
def fitS (x : Int) : Bool := decide (-170141183460469231731687303715884105728 ≤ x) && decide (x < 170141183460469231731687303715884105728)
def fitP (x : Int) : Bool := decide (0 ≤ x) && decide (x < 340282366920938463463374607431768211456)
theorem mod_W {x : Int} (h0 : 0 ≤ x) (h1 : x ≤ 340282366920938463463374607431768211455) : x.toNat % Sf02.W = x.toNat := by
  rw [W_lit]; omega
theorem mod_Wi {x : Int} (h0 : 0 ≤ x) (h1 : x ≤ 340282366920938463463374607431768211455) : (((x.toNat % Sf02.W : Nat)) : Int) = x := by
  rw [W_lit]; omega
theorem signed_eq {x : Int} (h0 : 0 ≤ x) (h1 : x ≤ 340282366920938463463374607431768211455) : Sf02.signed x.toNat = sgn x := by
  have e := mod_Wi h0 h1
  unfold Sf02.signed sgn
  rw [e, p127n]
  rw [W_lit] at *
  split <;> split <;> omega
theorem fits_S (z : Int) : Sf02.fits false z = fitS z := by
  unfold Sf02.fits fitS
  rw [p127]; rfl
theorem fits_P (z : Int) : Sf02.fits true z = fitP z := by
  unfold Sf02.fits fitP
  rw [W_lit]; rfl
end My
namespace My
def whE (x : Int) : Int := x / 4503599627370496 % 2048
def whM (x : Int) : Int := if whE x = 0 then x % 4503599627370496 else 4503599627370496 + x % 4503599627370496
def whN (x : Int) : Int := if 1075 ≤ whE x then whM x * 2 ^ (whE x - 1075).toNat else whM x / 2 ^ (1075 - max (whE x) 1).toNat
def whZ (x : Int) : Int := if 9223372036854775808 ≤ x then -(whN x) else whN x
theorem p52n : (2:Nat) ^ 52 = 4503599627370496 := by decide
theorem p63n : (2:Nat) ^ 63 = 9223372036854775808 := by decide
theorem p11n : (2:Nat) ^ 11 = 2048 := by decide
theorem whE_nat {x : Int} (h0 : 0 ≤ x) : ((x.toNat / 2 ^ 52 % 2 ^ 11 : Nat) : Int) = whE x := by
  unfold whE; rw [p52n, p11n]; omega
theorem whM_nat {x : Int} (h0 : 0 ≤ x) : (((if x.toNat / 2 ^ 52 % 2 ^ 11 = 0 then x.toNat % 2 ^ 52 else 2 ^ 52 + x.toNat % 2 ^ 52 : Nat)) : Int) = whM x := by
  have e := whE_nat h0
  unfold whM
  rw [p52n] at *
  split <;> split <;> omega
theorem whM_nonneg {x : Int} : 0 ≤ whM x := by unfold whM; split <;> omega
theorem whole_nat (x : Nat) : Sf02.whole x = (if x / 2 ^ 52 % 2 ^ 11 = 2047 then none else some (if x / 2 ^ 63 % 2 = 1 then -(((if 1075 ≤ x / 2 ^ 52 % 2 ^ 11 then (if x / 2 ^ 52 % 2 ^ 11 = 0 then x % 2 ^ 52 else 2 ^ 52 + x % 2 ^ 52) * 2 ^ (x / 2 ^ 52 % 2 ^ 11 - 1075) else (if x / 2 ^ 52 % 2 ^ 11 = 0 then x % 2 ^ 52 else 2 ^ 52 + x % 2 ^ 52) / 2 ^ (1075 - max (x / 2 ^ 52 % 2 ^ 11) 1) : Nat)) : Int) else (((if 1075 ≤ x / 2 ^ 52 % 2 ^ 11 then (if x / 2 ^ 52 % 2 ^ 11 = 0 then x % 2 ^ 52 else 2 ^ 52 + x % 2 ^ 52) * 2 ^ (x / 2 ^ 52 % 2 ^ 11 - 1075) else (if x / 2 ^ 52 % 2 ^ 11 = 0 then x % 2 ^ 52 else 2 ^ 52 + x % 2 ^ 52) / 2 ^ (1075 - max (x / 2 ^ 52 % 2 ^ 11) 1) : Nat)) : Int))) := rfl
theorem whN_nat {x : Int} (h0 : 0 ≤ x) : (((if 1075 ≤ x.toNat / 2 ^ 52 % 2 ^ 11 then (if x.toNat / 2 ^ 52 % 2 ^ 11 = 0 then x.toNat % 2 ^ 52 else 2 ^ 52 + x.toNat % 2 ^ 52) * 2 ^ (x.toNat / 2 ^ 52 % 2 ^ 11 - 1075) else (if x.toNat / 2 ^ 52 % 2 ^ 11 = 0 then x.toNat % 2 ^ 52 else 2 ^ 52 + x.toNat % 2 ^ 52) / 2 ^ (1075 - max (x.toNat / 2 ^ 52 % 2 ^ 11) 1) : Nat)) : Int) = whN x := by
  have e := whE_nat h0
  have m := whM_nat h0
  unfold whN
  generalize (if x.toNat / 2 ^ 52 % 2 ^ 11 = 0 then x.toNat % 2 ^ 52 else 2 ^ 52 + x.toNat % 2 ^ 52 : Nat) = M at *
  generalize x.toNat / 2 ^ 52 % 2 ^ 11 = E at *
  rw [← e, ← m]
  by_cases h : 1075 ≤ E
  · rw [if_pos h, if_pos (by omega), show ((E : Int) - 1075).toNat = E - 1075 by omega]
    simp
  · rw [if_neg h, if_neg (by omega), show (1075 - max (E : Int) 1).toNat = 1075 - max E 1 by omega]
    simp
theorem whole_eq {x : Int} (h0 : 0 ≤ x) (h1 : x ≤ 18446744073709551615) : Sf02.whole x.toNat = if whE x = 2047 then none else some (whZ x) := by
  rw [whole_nat, whN_nat h0]
  have e := whE_nat h0
  unfold whZ
  have c : (x.toNat / 2 ^ 52 % 2 ^ 11 = 2047) = (whE x = 2047) := by apply propext; omega
  have d : (x.toNat / 2 ^ 63 % 2 = 1) = (9223372036854775808 ≤ x) := by apply propext; rw [p63n]; omega
  simp only [c, d]
theorem whole_open (x p : Int) : PySf02.whole_ x p = Sf02Neutral.listOf (Sf02.spec (.whole x.toNat (p != 0))) := rfl
theorem spec_whole (x : Nat) (p : Bool) : Sf02.spec (.whole x p) = (match Sf02.whole x with
    | none => Sf02.says (-1)
    | some z => if Sf02.fits p z = true then ⟨0, [Sf02.le 16 (Sf02.bits z)]⟩ else Sf02.says (-1)) := rfl
theorem whole_none {x p : Int} (h0 : 0 ≤ x) (h1 : x ≤ 18446744073709551615) (h : whE x = 2047) : PySf02.whole_ x p = [-1] := by
  rw [whole_open, spec_whole, whole_eq h0 h1, if_pos h]; rfl
def fitK (p z : Int) : Bool := if p = 1 then fitP z else fitS z
theorem fits_K {p z : Int} (hp0 : 0 ≤ p) (hp1 : p ≤ 1) : Sf02.fits (p != 0) z = fitK p z := by
  unfold fitK
  rcases (by omega : p = 0 ∨ p = 1) with e | e <;> subst e
  · exact fits_S z
  · exact fits_P z
theorem whole_fits {x p : Int} (h0 : 0 ≤ x) (h1 : x ≤ 18446744073709551615) (hp0 : 0 ≤ p) (hp1 : p ≤ 1) (h : whE x ≠ 2047) (hf : fitK p (whZ x) = true) : PySf02.whole_ x p = 0 :: 16 :: by8 (whZ x) 16 := by
  rw [whole_open, spec_whole, whole_eq h0 h1, if_neg h]
  simp only [fits_K hp0 hp1, hf, if_true]
  show 0 :: ((Sf02Neutral.listed (Sf02Neutral.bytesTold (Sf02.le 16 (Sf02.bits (whZ x))))) ++ []) = _
  rw [told_bits, List.append_nil]; rfl
theorem whole_wide {x p : Int} (h0 : 0 ≤ x) (h1 : x ≤ 18446744073709551615) (hp0 : 0 ≤ p) (hp1 : p ≤ 1) (h : whE x ≠ 2047) (hf : fitK p (whZ x) = false) : PySf02.whole_ x p = [-1] := by
  rw [whole_open, spec_whole, whole_eq h0 h1, if_neg h]
  simp only [fits_K hp0 hp1, hf]
  rfl
end My
namespace My
open PySem PySem.W PySem.Calls PyProof.Rows
set_option maxRecDepth 100000 in
theorem said : PySem.Challenge.rw_widewhole_s07_whole.wellSaid = true := by decide +kernel
theorem in2 {l1 h1 l2 h2 x y : Int} {u : Unit} (w : Codec.withinAll [.int l1 h1, .int l2 h2] (x, y, u) = true) : (l1 ≤ x ∧ x ≤ h1) ∧ l2 ≤ y ∧ y ≤ h2 := by
  have w' : (Codec.inInt l1 h1 x && (Codec.inInt l2 h2 y && true)) = true := w
  simp only [Codec.inInt, Bool.and_eq_true, decide_eq_true_eq] at w'
  exact ⟨w'.1, w'.2.1⟩
theorem bounds {a b : Int} (h : PySem.Challenge.rw_widewhole_s07_whole.pre [.int a, .int b] = true) : 0 ≤ a ∧ a ≤ 18446744073709551615 ∧ 0 ≤ b ∧ b ≤ 1 := by
  obtain ⟨v, w, q, e⟩ := os_pre said h
  obtain ⟨x, y, u⟩ := v
  have e1 := os_j_int (List.cons.inj e).1
  have e2 := os_j_int (List.cons.inj (List.cons.inj e).2).1
  subst e1 e2
  have b := in2 w
  exact ⟨b.1.1, b.1.2, b.2.1, b.2.2⟩
theorem fin1 {a b : Int} {l : List Int} (hp : PySem.Challenge.rw_widewhole_s07_whole.pre [.int a, .int b] = true) (h : PySf02.whole_ a b = l) : PySem.Challenge.rw_widewhole_s07_whole.post [.int a, .int b] (ofPy (PyData.list (l.map PyData.int))) = true := by
  obtain ⟨v, w, q, e⟩ := os_pre said hp
  obtain ⟨x, y, u⟩ := v
  have e1 := os_j_int (List.cons.inj e).1
  have e2 := os_j_int (List.cons.inj (List.cons.inj e).2).1
  subst e1 e2
  refine os_shut said w ?_
  show _ = WData.list ((PySf02.whole_ a b).map WData.int)
  rw [h]
  exact os_list rfl
theorem fin2 {a b : Int} {l : List Int} (hp : PySem.Challenge.rw_widewhole_s07_whole.pre [.int a, .int b] = true) (h : PySf02.whole_ a b = l) : PySem.Challenge.rw_widewhole_s07_whole.post [.int a, .int b] (WData.list (ofPys (l.map PyData.int))) = true := by
  have f := fin1 hp h
  rw [os_list rfl] at f
  rw [os_ofPys_ints]
  exact f
end My
namespace My
open PySem PySem.W PySem.Calls PyProof.Rows
theorem bits_le {k : Int} (h1 : -115792089237316195423570985008687907853269984665640564039457584007913129639936 ≤ k) (h2 : k ≤ 115792089237316195423570985008687907853269984665640564039457584007913129639936) : Builtin.Int.intBits k ≤ 257 := by
  unfold Builtin.Int.intBits
  split
  · exact Nat.zero_le _
  · have hn : k.natAbs < 2 ^ 257 := by
      have e : (2:Nat)^257 = 231584178474632390847141970017375815706539969331281128078915168015826259279872 := by decide
      omega
    have : k.natAbs.log2 < 257 := by
      rcases Nat.eq_zero_or_pos k.natAbs with h0 | hp
      · rw [h0]; decide
      · exact (Nat.log2_lt (Nat.ne_of_gt hp)).mpr hn
    omega
theorem log_le {k : Int} (h1 : -115792089237316195423570985008687907853269984665640564039457584007913129639936 ≤ k) (h2 : k ≤ 115792089237316195423570985008687907853269984665640564039457584007913129639936) : k.natAbs.log2 < 9000 := by
  have hn : k.natAbs < 2 ^ 257 := by
    have e : (2:Nat)^257 = 231584178474632390847141970017375815706539969331281128078915168015826259279872 := by decide
    omega
  have : k.natAbs.log2 < 257 := by
    rcases Nat.eq_zero_or_pos k.natAbs with h0 | hp
    · rw [h0]; decide
    · exact (Nat.log2_lt (Nat.ne_of_gt hp)).mpr hn
  omega
theorem walk8 (z : Int) (n : Nat) : List.map (fun k' => Builtin.bitAnd (z.fdiv (2 ^ (8 * k').toNat)) 255) (rangeKs 0 n) = by8 z n := by
  unfold rangeKs by8
  rw [List.map_map]
  apply List.map_congr_left
  intro k _
  show Builtin.bitAnd (z.fdiv (2 ^ (8 * (0 + (k : Int))).toNat)) 255 = z / 256 ^ k % 256
  have e : (8 * (0 + (k : Int))).toNat = 8 * k := by omega
  have m : Builtin.bitAnd (z.fdiv (2 ^ (8 * k))) 255 = z.fdiv (2 ^ (8 * k)) % 256 := kbt_mask _ 8
  rw [e, m, Int.fdiv_eq_ediv_of_nonneg _ (Int.le_of_lt (Int.pow_pos (by decide))), Int.pow_mul]
  rfl
theorem sgn_fact (x : Int) : (170141183460469231731687303715884105728 ≤ x ∧ sgn x = x - 340282366920938463463374607431768211456) ∨ (x < 170141183460469231731687303715884105728 ∧ sgn x = x) := by
  unfold sgn; split <;> omega
theorem sgn_a {x : Int} (h : 170141183460469231731687303715884105728 ≤ x) : x - 340282366920938463463374607431768211456 = sgn x := by unfold sgn; rw [if_pos h]
theorem sgn_b {x : Int} (h : x < 170141183460469231731687303715884105728) : x = sgn x := by unfold sgn; rw [if_neg (by omega)]
theorem fitS_a {x : Int} (h : x < -170141183460469231731687303715884105728) : decide (-170141183460469231731687303715884105728 ≤ x) = fitS x := by
  unfold fitS; rw [decide_eq_false (by omega)]; rfl
theorem fitS_b {x : Int} (h : -170141183460469231731687303715884105728 ≤ x) : decide (x < 170141183460469231731687303715884105728) = fitS x := by
  unfold fitS; rw [decide_eq_true h]; rfl
theorem fitP_a {x : Int} (h : x < 0) : decide (0 ≤ x) = fitP x := by
  unfold fitP; rw [decide_eq_false (by omega)]; rfl
theorem fitP_b {x : Int} (h : 0 ≤ x) : decide (x < 340282366920938463463374607431768211456) = fitP x := by
  unfold fitP; rw [decide_eq_true h]; rfl
section
variable {prog : Program} {w : World} {A : Around} {E : Value → Shared → Prop} {s : Shared} {x y : Int} {t u : Tok} {Q : Value → Shared → Prop}
theorem step_mul (a1 : -115792089237316195423570985008687907853269984665640564039457584007913129639936 ≤ x) (a2 : x ≤ 115792089237316195423570985008687907853269984665640564039457584007913129639936) (b1 : -115792089237316195423570985008687907853269984665640564039457584007913129639936 ≤ y) (b2 : y ≤ 115792089237316195423570985008687907853269984665640564039457584007913129639936) (h : Q (.int (x * y) s.toks) { s with toks := s.toks + 1 }) : wpAny (model prog w) A (binaryOp .Mult (.int x t) (.int y u)) Q E s :=
  PyProof.Rows.mul_int h (PySem.IntMulOk.of_bits (Nat.le_trans (bits_le a1 a2) (by decide)) (Nat.le_trans (bits_le b1 b2) (by decide)))
theorem step_div (hb : y ≠ 0) (b1 : -115792089237316195423570985008687907853269984665640564039457584007913129639936 ≤ y) (b2 : y ≤ 115792089237316195423570985008687907853269984665640564039457584007913129639936) (h : Q (.int (x.fdiv y) s.toks) { s with toks := s.toks + 1 }) : wpAny (model prog w) A (binaryOp .FloorDiv (.int x t) (.int y u)) Q E s :=
  PyProof.Rows.floordiv_int hb h (Or.inl (PyProof.noPylong_of_log2 (log_le b1 b2)))
theorem step_mod (hb : y ≠ 0) (h : Q (.int (x.fmod y) s.toks) { s with toks := s.toks + 1 }) : wpAny (model prog w) A (binaryOp .Mod (.int x t) (.int y u)) Q E s :=
  PyProof.Rows.mod_int hb h
theorem step_shl (a1 : -115792089237316195423570985008687907853269984665640564039457584007913129639936 ≤ x) (a2 : x ≤ 115792089237316195423570985008687907853269984665640564039457584007913129639936) (h0 : 0 ≤ y) (h1 : y ≤ 3000) (h : Q (.int (x * 2 ^ y.toNat) s.toks) { s with toks := s.toks + 1 }) : wpAny (model prog w) A (binaryOp .LShift (.int x t) (.int y u)) Q E s := by
  refine PyProof.Rows.lshift_int h0 ?_ h
  have := bits_le a1 a2
  have e : (2:Int)^27 = 134217728 := by decide
  omega
theorem step_shr (h0 : 0 ≤ y) (h : Q (.int (x.fdiv (2 ^ y.toNat)) s.toks) { s with toks := s.toks + 1 }) : wpAny (model prog w) A (binaryOp .RShift (.int x t) (.int y u)) Q E s :=
  PyProof.Rows.rshift_int h0 h
end
end My
open PySem PySem.W PyProof.Rows
local macro_rules | `(tactic| walk_at "binaryOp Mult int int") => `(tactic| (k_here; (with_reducible refine' My.step_mul ?k1 ?k2 ?k3 ?k4 ?_); (case k1 => k_dflt omega); (case k2 => k_dflt omega); (case k3 => k_dflt omega); (case k4 => k_dflt omega)))
local macro_rules | `(tactic| walk_at "binaryOp FloorDiv int int") => `(tactic| (k_here; (with_reducible refine' My.step_div ?k1 ?k2 ?k3 ?_); (case k1 => k_dflt omega); (case k2 => k_dflt omega); (case k3 => k_dflt omega)))
local macro_rules | `(tactic| walk_at "binaryOp Mod int int") => `(tactic| (k_here; (with_reducible refine' My.step_mod ?k1 ?_); (case k1 => k_dflt omega)))
local macro_rules | `(tactic| walk_at "binaryOp LShift int int") => `(tactic| (k_here; (with_reducible refine' My.step_shl ?k1 ?k2 ?k3 ?k4 ?_); (case k1 => k_dflt omega); (case k2 => k_dflt omega); (case k3 => k_dflt omega); (case k4 => k_dflt omega)))
local macro_rules | `(tactic| walk_at "binaryOp RShift int int") => `(tactic| (k_here; (with_reducible refine' My.step_shr ?k1 ?_); (case k1 => k_dflt omega)))
namespace My
open PySem PySem.W PySem.Calls PyProof.Rows
def swp (e f : Int) : Int := if e < 1023 then 0 else if 0 ≤ e - 1023 - 52 then (4503599627370496 + f) * 2 ^ (e - 1023 - 52).toNat else (4503599627370496 + f).fdiv (2 ^ (-(e - 1023 - 52)).toNat)
theorem swp_0 {e f : Int} (h : e < 1023) : 0 = swp e f := by unfold swp; rw [if_pos h]
theorem swp_1 {e f : Int} (h : ¬ e < 1023) (h1 : 0 ≤ e - 1023 - 52) : (4503599627370496 + f) * 2 ^ (e - 1023 - 52).toNat = swp e f := by unfold swp; rw [if_neg h, if_pos h1]
theorem swp_2 {e f : Int} (h : ¬ e < 1023) (h1 : ¬ 0 ≤ e - 1023 - 52) : (4503599627370496 + f).fdiv (2 ^ (-(e - 1023 - 52)).toNat) = swp e f := by unfold swp; rw [if_neg h, if_neg h1]
def fitT (z p : Int) : Bool := fitK p z
theorem fitT_1 {z p : Int} (h : p = 1) : fitP z = fitT z p := by unfold fitT fitK; rw [if_pos h]
theorem fitT_0 {z p : Int} (h : ¬ p = 1) : fitS z = fitT z p := by unfold fitT fitK; rw [if_neg h]
def xE (x : Int) : Int := x % 9223372036854775808 / 4503599627370496
theorem xE_eq (x : Int) : x % 9223372036854775808 / 4503599627370496 = whE x := by unfold whE; omega
theorem swp_eq {x : Int} (h0 : 0 ≤ x) (h : whE x ≠ 2047) : swp (whE x) (x % 4503599627370496) = whN x := by
  have e0 : 0 ≤ whE x := by unfold whE; omega
  have e1 : whE x ≤ 2047 := by unfold whE; omega
  have m0 : 0 ≤ x % 4503599627370496 := by omega
  have m1 : x % 4503599627370496 < 4503599627370496 := by omega
  unfold swp whN whM
  generalize x % 4503599627370496 = f at *
  generalize whE x = e at *
  by_cases c : e < 1023
  · rw [if_pos c, if_neg (by omega)]
    have big : (9007199254740992 : Int) ≤ 2 ^ (1075 - max e 1).toNat := by
      have : (2 : Int) ^ 53 ≤ 2 ^ (1075 - max e 1).toNat := by
        have q : (2 : Nat) ^ 53 ≤ 2 ^ (1075 - max e 1).toNat := Nat.pow_le_pow_right (by decide) (by omega)
        have q2 : (((2 : Nat) ^ 53 : Nat) : Int) ≤ ((2 ^ (1075 - max e 1).toNat : Nat) : Int) := by omega
        rw [Int.natCast_pow, Int.natCast_pow] at q2
        exact q2
      have l : (2 : Int) ^ 53 = 9007199254740992 := by decide
      omega
    symm
    apply Int.ediv_eq_zero_of_lt
    · split <;> omega
    · split <;> omega
  · rw [if_neg c, if_neg (show ¬ e = 0 by omega)]
    by_cases d : 0 ≤ e - 1023 - 52
    · rw [if_pos d, if_pos (by omega), show (e - 1023 - 52).toNat = (e - 1075).toNat by omega]
    · rw [if_neg d, if_neg (by omega), show (-(e - 1023 - 52)).toNat = (1075 - max e 1).toNat by omega, Int.fdiv_eq_ediv_of_nonneg _ (Int.le_of_lt (Int.pow_pos (by decide)))]
section
variable {a b : Int} (hp : PySem.Challenge.rw_widewhole_s07_whole.pre [.int a, .int b] = true)
include hp
theorem end_none (h : a % 9223372036854775808 / 4503599627370496 = 2047) : PySem.Challenge.rw_widewhole_s07_whole.post [.int a, .int b] (ofPy (PyData.list [PyData.int (-1)])) = true := by
  have B := bounds hp
  refine fin1 (l := [-1]) hp ?_
  rw [xE_eq] at h
  exact whole_none B.1 B.2.1 h
theorem whZ_a (h : ¬ a % 9223372036854775808 / 4503599627370496 = 2047) (hs : 9223372036854775808 ≤ a) : -(swp (a % 9223372036854775808 / 4503599627370496) (a % 4503599627370496)) = whZ a := by
  have B := bounds hp
  unfold whZ
  rw [xE_eq] at *
  rw [if_pos hs, swp_eq B.1 h]
theorem whZ_b (h : ¬ a % 9223372036854775808 / 4503599627370496 = 2047) (hs : a < 9223372036854775808) : swp (a % 9223372036854775808 / 4503599627370496) (a % 4503599627370496) = whZ a := by
  have B := bounds hp
  unfold whZ
  rw [xE_eq] at *
  rw [if_neg (by omega), swp_eq B.1 h]
theorem end_wide {z : Int} (h : ¬ a % 9223372036854775808 / 4503599627370496 = 2047) (e : z = whZ a) (hf : fitT z b = false) : PySem.Challenge.rw_widewhole_s07_whole.post [.int a, .int b] (ofPy (PyData.list [PyData.int (-1)])) = true := by
  have B := bounds hp
  refine fin1 (l := [-1]) hp ?_
  rw [xE_eq] at h
  exact whole_wide B.1 B.2.1 B.2.2.1 B.2.2.2 h (by rw [← e]; exact hf)
theorem end_fits {z : Int} (h : ¬ a % 9223372036854775808 / 4503599627370496 = 2047) (e : z = whZ a) (hf : fitT z b = true) : PySem.Challenge.rw_widewhole_s07_whole.post [.int a, .int b] (WData.list (ofPys (List.map PyData.int ([0, 16] ++ List.map (fun k' => Builtin.bitAnd (z.fdiv (2 ^ (8 * k').toNat)) 255) (rangeKs 0 ((16 : Int) - 0).toNat))))) = true := by
  have B := bounds hp
  refine fin2 hp ?_
  rw [xE_eq] at h
  rw [whole_fits B.1 B.2.1 B.2.2.1 B.2.2.2 h (by rw [← e]; exact hf), walk8, e]; rfl
end
section
variable {prog : Program} {w : World} {A : Around} {E : Value → Shared → Prop} {s : Shared} {x y : Int} {t u : Tok} {Q : Value → Shared → Prop}
theorem step_modE (hb : 0 < y) (h : Q (.int (x % y) s.toks) { s with toks := s.toks + 1 }) : wpAny (model prog w) A (binaryOp .Mod (.int x t) (.int y u)) Q E s := by
  refine PyProof.Rows.mod_int (by omega) ?_
  rw [Int.fmod_eq_emod_of_nonneg x (by omega)]; exact h
theorem step_shr52 (h : Q (.int (x / 4503599627370496) s.toks) { s with toks := s.toks + 1 }) : wpAny (model prog w) A (binaryOp .RShift (.int x t) (.int 52 u)) Q E s := by
  refine PyProof.Rows.rshift_int (by decide) ?_
  have e : (2 : Int) ^ (52 : Int).toNat = 4503599627370496 := by decide
  rw [e, Int.fdiv_eq_ediv_of_nonneg x (by decide)]; exact h
end
end My
local macro_rules | `(tactic| walk_at "binaryOp Mod int int") => `(tactic| (k_here; (with_reducible refine' My.step_modE ?k1 ?_); (case k1 => k_dflt omega)))
local macro_rules | `(tactic| walk_at "binaryOp RShift int int") => `(tactic| (k_here; (with_reducible show wpAny _ _ (binaryOp Operator.RShift (Value.int _ _) (Value.int 52 _)) _ _ _); k_dflt (refine My.step_shr52 ?_)))
local macro_rules | `(tactic| walk_at "eval Call") => `(tactic| (k_here; (with_reducible show wpAny _ _ (eval (Expr.Call (Expr.Name (Str.ofString "size_without_point") _) _ _ _) _) _ _ _); k_dflt (refine Call_ ?_)))
local macro_rules | `(tactic| walk_at "eval Call") => `(tactic| (k_here; (with_reducible show wpAny _ _ (eval (Expr.Call (Expr.Name (Str.ofString "fits_told") _) _ _ _) _) _ _ _); k_dflt (refine Call_ ?_)))
local macro_rules | `(tactic| walk_at "eval Call") => `(tactic| (k_here; (with_reducible show wpAny _ _ (eval (Expr.Call (Expr.Name (Str.ofString "fits_plain") _) _ _ _) _) _ _ _); k_dflt (refine Call_ ?_)))
local macro_rules | `(tactic| walk_at "eval Call") => `(tactic| (k_here; (with_reducible show wpAny _ _ (eval (Expr.Call (Expr.Name (Str.ofString "fits_signed") _) _ _ _) _) _ _ _); k_dflt (refine Call_ ?_)))
set_option maxRecDepth 100000 in
set_option maxHeartbeats 8000000 in
theorem PySem.Challenge.cw_widewhole_s07_whole_holds : PySem.Challenge.rw_widewhole_s07_whole.Holds := by
  k_with "tree" => (first | exact My.fitS_a (by omega) | exact My.fitS_b (by omega) | exact My.fitP_a (by omega) | exact My.fitP_b (by omega) | exact My.fitT_1 (by omega) | exact My.fitT_0 (by omega) | exact My.swp_0 (by omega) | exact My.swp_1 (by omega) (by omega) | exact My.swp_2 (by omega) (by omega))
  k_with "call ref" => k_call_rec "fits_signed" My.fitS (fun (_ : Int) => True) (fun (_ : Int) => 0)
  k_with "call ref" => k_call_rec "fits_plain" My.fitP (fun (_ : Int) => True) (fun (_ : Int) => 0)
  k_with "call ref" => k_call_rec "fits_told" My.fitT (fun (_ _ : Int) => True) (fun (_ _ : Int) => 3)
  k_with "call ref" => k_call_rec "size_without_point" My.swp (fun (e f : Int) => 0 ≤ e ∧ e ≤ 2047 ∧ 0 ≤ f ∧ f < 4503599627370496) (fun (_ _ : Int) => 0)
  w_on; k_headS; (case hw => exact ⟨[.int 0, .int 0], by decide +kernel, by decide +kernel⟩); w_strict (k_goS0; (with_reducible rename OpenSpec.pre _ _ = true => osP); (have osB := My.bounds osP); (all_goals try k_fold); k_steps; (all_goals (try (w_end; sp_is; wrow_close))); (all_goals (try k_data)); all_goals first | sp_left | w_report)
  all_goals first
    | exact My.end_none hpre (by omega)
    | exact My.end_wide hpre (by omega) (My.whZ_a hpre (by omega) (by omega)) (by assumption)
    | exact My.end_wide hpre (by omega) (My.whZ_b hpre (by omega) (by omega)) (by assumption)
    | exact My.end_fits hpre (by omega) (My.whZ_a hpre (by omega) (by omega)) (by assumption)
    | exact My.end_fits hpre (by omega) (My.whZ_b hpre (by omega) (by omega)) (by assumption)
#print axioms PySem.Challenge.cw_widewhole_s07_whole_holds
