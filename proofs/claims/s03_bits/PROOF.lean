import PyProof.Rows.All
import KE.OsGo
import KE.OsArgs
import PySem.Challenge.RW_widewhole_s03_bits
set_option Elab.async false
namespace My
open PySem
theorem p127 : (2:Int) ^ 127 = 170141183460469231731687303715884105728 := by decide
theorem p127n : (2:Nat) ^ 127 = 170141183460469231731687303715884105728 := by decide
theorem W_lit : Sf02.W = 340282366920938463463374607431768211456 := by decide
/- bytes, the lowest first -/
def by8 (z : Int) (n : Nat) : List Int := (List.range n).map fun (k : Nat) => z / 256 ^ k % 256
theorem told_le (n k : Nat) : Sf02Neutral.bytesTold (Sf02.le k n) = by8 (n : Int) k := by
  unfold Sf02Neutral.bytesTold Sf02.le by8
  rw [List.map_map]
  apply List.map_congr_left
  intro i _
  show ((UInt8.ofNat (n / 256 ^ i % 256)).toNat : Int) = _
  have e : (UInt8.ofNat (n / 256 ^ i % 256)).toNat = n / 256 ^ i % 256 := by
    rw [UInt8.toNat_ofNat']; exact Nat.mod_mod _ _
  rw [e]; simp
theorem pmod (z : Int) {p m : Int} (hp : 0 < p) (hm : 0 < m) : (z % (p * m)) / p = z / p % m := by
  have hne : p ≠ 0 := by omega
  have e : z = z % (p * m) + p * (m * (z / (p * m))) := by
    have := Int.emod_add_mul_ediv z (p * m)
    rw [Int.mul_assoc] at this; omega
  have e2 : z / p = (z % (p * m)) / p + m * (z / (p * m)) := by
    conv => lhs; rw [e]
    rw [Int.add_mul_ediv_left _ _ hne]
  have h0 : 0 ≤ z % (p * m) := Int.emod_nonneg _ (by have := Int.mul_pos hp hm; omega)
  have h1 : z % (p * m) < p * m := Int.emod_lt_of_pos _ (Int.mul_pos hp hm)
  rw [e2, Int.add_mul_emod_self_left, Int.emod_eq_of_lt (Int.ediv_nonneg h0 (by omega)) (Int.ediv_lt_of_lt_mul hp (by rw [Int.mul_comm m p]; exact h1))]
theorem by8_mod (z : Int) (n : Nat) : by8 (z % 256 ^ n) n = by8 z n := by
  unfold by8
  apply List.map_congr_left
  intro k hk
  have hk' : k < n := List.mem_range.mp hk
  have e : (256:Int) ^ n = 256 ^ k * 256 ^ (n - k) := by rw [← Int.pow_add]; congr 1; omega
  have e3 : (256:Int) ^ (n - k) = 256 * 256 ^ (n - k - 1) := by
    have : n - k = (n - k - 1) + 1 := by omega
    conv => lhs; rw [this, Int.pow_succ]
    rw [Int.mul_comm]
  rw [e, pmod z (Int.pow_pos (by decide)) (Int.pow_pos (by decide)), e3, Int.emod_emod_of_dvd _ ⟨_, rfl⟩]
theorem told_bits (z : Int) : Sf02Neutral.bytesTold (Sf02.le 16 (Sf02.bits z)) = by8 z 16 := by
  rw [told_le]
  have e : ((Sf02.bits z : Nat) : Int) = z % 256 ^ 16 := by
    unfold Sf02.bits
    rw [W_lit]
    have : (256:Int) ^ 16 = 340282366920938463463374607431768211456 := by decide
    rw [this]; omega
  rw [e, by8_mod]
theorem by8_congr {z y : Int} {n : Nat} (h : z % 256 ^ n = y % 256 ^ n) : by8 z n = by8 y n := by
  rw [← by8_mod z, h, by8_mod]

def sgn (x : Int) : Int := if 170141183460469231731687303715884105728 ≤ x then x - 340282366920938463463374607431768211456 else x
def fitS (x : Int) : Bool := decide (-170141183460469231731687303715884105728 ≤ x) && decide (x < 170141183460469231731687303715884105728)
def fitP (x : Int) : Bool := decide (0 ≤ x) && decide (x < 340282366920938463463374607431768211456)
theorem mod_W {x : Int} (h0 : 0 ≤ x) (h1 : x ≤ 340282366920938463463374607431768211455) : x.toNat % Sf02.W = x.toNat := by
  rw [W_lit]; omega
theorem mod_Wi {x : Int} (h0 : 0 ≤ x) (h1 : x ≤ 340282366920938463463374607431768211455) : (((x.toNat % Sf02.W : Nat)) : Int) = x := by
  rw [W_lit]; omega
theorem signed_eq {x : Int} (h0 : 0 ≤ x) (h1 : x ≤ 340282366920938463463374607431768211455) : Sf02.signed x.toNat = sgn x := by
  have e := mod_Wi h0 h1
  unfold Sf02.signed sgn
  rw [e, p127n]
  rw [W_lit] at *
  split <;> split <;> omega
theorem fits_S (z : Int) : Sf02.fits false z = fitS z := by
  unfold Sf02.fits fitS
  rw [p127]; rfl
theorem fits_P (z : Int) : Sf02.fits true z = fitP z := by
  unfold Sf02.fits fitP
  rw [W_lit]; rfl
end My
namespace My
/- bits -/
def onesN (n k : Nat) : Nat := ((List.range k).filter fun i => n / 2 ^ i % 2 == 1).length
theorem ones_eq (n : Nat) : Sf02.ones n = onesN n 128 := rfl
theorem onesN_up (n k : Nat) : onesN n (k + 1) = onesN n k + n / 2 ^ k % 2 := by
  unfold onesN
  rw [List.range_succ, List.filter_append, List.length_append]
  congr 1
  rcases Nat.mod_two_eq_zero_or_one (n / 2 ^ k) with h | h <;> simp [h]
theorem onesN_down (n k : Nat) : onesN n (k + 1) = n % 2 + onesN (n / 2) k := by
  induction k with
  | zero => rw [onesN_up]; simp [onesN]
  | succ k ih =>
    rw [onesN_up, ih, onesN_up (n / 2) k]
    have : n / 2 ^ (k + 1) = n / 2 / 2 ^ k := by rw [Nat.div_div_eq_div_mul, Nat.pow_succ, Nat.mul_comm]
    rw [this]; omega
theorem onesN_zero (k : Nat) : onesN 0 k = 0 := by
  induction k with
  | zero => rfl
  | succ k ih => rw [onesN_up, ih]; simp
theorem find_some (p : Nat → Bool) (m n : Nat) (hm : m < n) (hp : p m = true) (hlt : ∀ i, i < m → p i = false) : (List.range n).find? p = some m := by
  rw [List.find?_range_eq_some]
  refine ⟨hp, List.mem_range.mpr hm, ?_⟩
  intro j hj; simp [hlt j hj]
theorem find_none (p : Nat → Bool) (n : Nat) (h : ∀ i, i < n → p i = false) : (List.range n).find? p = none := by
  rw [List.find?_eq_none]
  intro x hx; simp [h x (List.mem_range.mp hx)]
theorem leading_zero : Sf02.leading 0 = 128 := by
  unfold Sf02.leading; rw [find_none]; rfl
  intro i _; simp
theorem trailing_zero : Sf02.trailing 0 = 128 := by
  unfold Sf02.trailing; rw [find_none]; rfl
  intro i _; simp
theorem leading_eq {n k : Nat} (h0 : 2 ^ k ≤ n) (h1 : n < 2 ^ (k + 1)) (hk : k < 128) : Sf02.leading n = 127 - k := by
  unfold Sf02.leading
  rw [find_some _ (127 - k) 128 (by omega)]
  · rfl
  · have e : 127 - (127 - k) = k := by omega
    have e2 : n / 2 ^ k = 1 := by
      rw [Nat.pow_succ] at h1
      exact Nat.div_eq_of_lt_le (by omega) (by omega)
    show (n / 2 ^ (127 - (127 - k)) % 2 == 1) = true
    rw [e, e2]; rfl
  · intro i hi
    have h2 : 2 ^ (k + 1) ≤ 2 ^ (127 - i) := Nat.pow_le_pow_right (by decide) (by omega)
    show (n / 2 ^ (127 - i) % 2 == 1) = false
    rw [Nat.div_eq_of_lt (by omega)]; rfl
theorem trailing_eq {n t : Nat} (h : n / 2 ^ t % 2 = 1) (h0 : n % 2 ^ t = 0) (ht : t < 128) : Sf02.trailing n = t := by
  unfold Sf02.trailing
  rw [find_some _ t 128 ht]
  · rfl
  · show (n / 2 ^ t % 2 == 1) = true
    rw [h]; rfl
  · intro i hi
    show (n / 2 ^ i % 2 == 1) = false
    have e : n = 2 ^ i * (2 ^ (t - i) * (n / 2 ^ t)) := by
      rw [← Nat.mul_assoc, ← Nat.pow_add, show i + (t - i) = t by omega]
      have := Nat.div_add_mod n (2 ^ t); omega
    have e2 : n / 2 ^ i = 2 ^ (t - i) * (n / 2 ^ t) := by
      conv => lhs; rw [e]
      exact Nat.mul_div_cancel_left _ (Nat.two_pow_pos i)
    have e3 : 2 ^ (t - i) = 2 * 2 ^ (t - i - 1) := by
      have : t - i = (t - i - 1) + 1 := by omega
      conv => lhs; rw [this, Nat.pow_succ]
      rw [Nat.mul_comm]
    rw [e2, e3, Nat.mul_assoc, Nat.mul_mod_right]; rfl
theorem bits_open {a w : Int} (a0 : 0 ≤ a) (a1 : a ≤ 340282366920938463463374607431768211455) : PySf02.bits a w = [Sf02.bitsOf a.toNat w] := by
  show [Sf02.bitsOf (a.toNat % Sf02.W) w] = _
  rw [mod_W a0 a1]
end My
namespace My
open PySem PySem.W PySem.Calls PyProof.Rows
set_option maxRecDepth 100000 in
theorem said : PySem.Challenge.rw_widewhole_s03_bits.wellSaid = true := by decide +kernel
theorem in2 {l1 h1 l2 h2 x y : Int} {u : Unit} (w : Codec.withinAll [.int l1 h1, .int l2 h2] (x, y, u) = true) : (l1 ≤ x ∧ x ≤ h1) ∧ l2 ≤ y ∧ y ≤ h2 := by
  have w' : (Codec.inInt l1 h1 x && (Codec.inInt l2 h2 y && true)) = true := w
  simp only [Codec.inInt, Bool.and_eq_true, decide_eq_true_eq] at w'
  exact ⟨w'.1, w'.2.1⟩
theorem bounds {a b : Int} (h : PySem.Challenge.rw_widewhole_s03_bits.pre [.int a, .int b] = true) : 0 ≤ a ∧ a ≤ 340282366920938463463374607431768211455 ∧ (-2147483648) ≤ b ∧ b ≤ 2147483647 := by
  obtain ⟨v, w, q, e⟩ := os_pre said h
  obtain ⟨x, y, u⟩ := v
  have e1 := os_j_int (List.cons.inj e).1
  have e2 := os_j_int (List.cons.inj (List.cons.inj e).2).1
  subst e1 e2
  have b := in2 w
  exact ⟨b.1.1, b.1.2, b.2.1, b.2.2⟩
theorem fin1 {a b : Int} {l : List Int} (hp : PySem.Challenge.rw_widewhole_s03_bits.pre [.int a, .int b] = true) (h : PySf02.bits a b = l) : PySem.Challenge.rw_widewhole_s03_bits.post [.int a, .int b] (ofPy (PyData.list (l.map PyData.int))) = true := by
  obtain ⟨v, w, q, e⟩ := os_pre said hp
  obtain ⟨x, y, u⟩ := v
  have e1 := os_j_int (List.cons.inj e).1
  have e2 := os_j_int (List.cons.inj (List.cons.inj e).2).1
  subst e1 e2
  refine os_shut said w ?_
  show _ = WData.list ((PySf02.bits a b).map WData.int)
  rw [h]
  exact os_list rfl
theorem fin2 {a b : Int} {l : List Int} (hp : PySem.Challenge.rw_widewhole_s03_bits.pre [.int a, .int b] = true) (h : PySf02.bits a b = l) : PySem.Challenge.rw_widewhole_s03_bits.post [.int a, .int b] (WData.list (ofPys (l.map PyData.int))) = true := by
  have f := fin1 hp h
  rw [os_list rfl] at f
  rw [os_ofPys_ints]
  exact f
end My
namespace My
open PySem PySem.W PySem.Calls PyProof.Rows
theorem bits_le {k : Int} (h1 : -115792089237316195423570985008687907853269984665640564039457584007913129639936 ≤ k) (h2 : k ≤ 115792089237316195423570985008687907853269984665640564039457584007913129639936) : Builtin.Int.intBits k ≤ 257 := by
  unfold Builtin.Int.intBits
  split
  · exact Nat.zero_le _
  · have hn : k.natAbs < 2 ^ 257 := by
      have e : (2:Nat)^257 = 231584178474632390847141970017375815706539969331281128078915168015826259279872 := by decide
      omega
    have : k.natAbs.log2 < 257 := by
      rcases Nat.eq_zero_or_pos k.natAbs with h0 | hp
      · rw [h0]; decide
      · exact (Nat.log2_lt (Nat.ne_of_gt hp)).mpr hn
    omega
theorem log_le {k : Int} (h1 : -115792089237316195423570985008687907853269984665640564039457584007913129639936 ≤ k) (h2 : k ≤ 115792089237316195423570985008687907853269984665640564039457584007913129639936) : k.natAbs.log2 < 9000 := by
  have hn : k.natAbs < 2 ^ 257 := by
    have e : (2:Nat)^257 = 231584178474632390847141970017375815706539969331281128078915168015826259279872 := by decide
    omega
  have : k.natAbs.log2 < 257 := by
    rcases Nat.eq_zero_or_pos k.natAbs with h0 | hp
    · rw [h0]; decide
    · exact (Nat.log2_lt (Nat.ne_of_gt hp)).mpr hn
  omega
theorem walk8 (z : Int) (n : Nat) : List.map (fun k' => Builtin.bitAnd (z.fdiv (2 ^ (8 * k').toNat)) 255) (rangeKs 0 n) = by8 z n := by
  unfold rangeKs by8
  rw [List.map_map]
  apply List.map_congr_left
  intro k _
  show Builtin.bitAnd (z.fdiv (2 ^ (8 * (0 + (k : Int))).toNat)) 255 = z / 256 ^ k % 256
  have e : (8 * (0 + (k : Int))).toNat = 8 * k := by omega
  have m : Builtin.bitAnd (z.fdiv (2 ^ (8 * k))) 255 = z.fdiv (2 ^ (8 * k)) % 256 := kbt_mask _ 8
  rw [e, m, Int.fdiv_eq_ediv_of_nonneg _ (Int.le_of_lt (Int.pow_pos (by decide))), Int.pow_mul]
  rfl
theorem sgn_fact (x : Int) : (170141183460469231731687303715884105728 ≤ x ∧ sgn x = x - 340282366920938463463374607431768211456) ∨ (x < 170141183460469231731687303715884105728 ∧ sgn x = x) := by
  unfold sgn; split <;> omega
theorem sgn_a {x : Int} (h : 170141183460469231731687303715884105728 ≤ x) : x - 340282366920938463463374607431768211456 = sgn x := by unfold sgn; rw [if_pos h]
theorem sgn_b {x : Int} (h : x < 170141183460469231731687303715884105728) : x = sgn x := by unfold sgn; rw [if_neg (by omega)]
theorem fitS_a {x : Int} (h : x < -170141183460469231731687303715884105728) : decide (-170141183460469231731687303715884105728 ≤ x) = fitS x := by
  unfold fitS; rw [decide_eq_false (by omega)]; rfl
theorem fitS_b {x : Int} (h : -170141183460469231731687303715884105728 ≤ x) : decide (x < 170141183460469231731687303715884105728) = fitS x := by
  unfold fitS; rw [decide_eq_true h]; rfl
theorem fitP_a {x : Int} (h : x < 0) : decide (0 ≤ x) = fitP x := by
  unfold fitP; rw [decide_eq_false (by omega)]; rfl
theorem fitP_b {x : Int} (h : 0 ≤ x) : decide (x < 340282366920938463463374607431768211456) = fitP x := by
  unfold fitP; rw [decide_eq_true h]; rfl
section
variable {prog : Program} {w : World} {A : Around} {E : Value → Shared → Prop} {s : Shared} {x y : Int} {t u : Tok} {Q : Value → Shared → Prop}
theorem step_mul (a1 : -115792089237316195423570985008687907853269984665640564039457584007913129639936 ≤ x) (a2 : x ≤ 115792089237316195423570985008687907853269984665640564039457584007913129639936) (b1 : -115792089237316195423570985008687907853269984665640564039457584007913129639936 ≤ y) (b2 : y ≤ 115792089237316195423570985008687907853269984665640564039457584007913129639936) (h : Q (.int (x * y) s.toks) { s with toks := s.toks + 1 }) : wpAny (model prog w) A (binaryOp .Mult (.int x t) (.int y u)) Q E s :=
  PyProof.Rows.mul_int h (PySem.IntMulOk.of_bits (Nat.le_trans (bits_le a1 a2) (by decide)) (Nat.le_trans (bits_le b1 b2) (by decide)))
theorem step_div (hb : y ≠ 0) (b1 : -115792089237316195423570985008687907853269984665640564039457584007913129639936 ≤ y) (b2 : y ≤ 115792089237316195423570985008687907853269984665640564039457584007913129639936) (h : Q (.int (x.fdiv y) s.toks) { s with toks := s.toks + 1 }) : wpAny (model prog w) A (binaryOp .FloorDiv (.int x t) (.int y u)) Q E s :=
  PyProof.Rows.floordiv_int hb h (Or.inl (PyProof.noPylong_of_log2 (log_le b1 b2)))
theorem step_mod (hb : y ≠ 0) (h : Q (.int (x.fmod y) s.toks) { s with toks := s.toks + 1 }) : wpAny (model prog w) A (binaryOp .Mod (.int x t) (.int y u)) Q E s :=
  PyProof.Rows.mod_int hb h
theorem step_shl (a1 : -115792089237316195423570985008687907853269984665640564039457584007913129639936 ≤ x) (a2 : x ≤ 115792089237316195423570985008687907853269984665640564039457584007913129639936) (h0 : 0 ≤ y) (h1 : y ≤ 3000) (h : Q (.int (x * 2 ^ y.toNat) s.toks) { s with toks := s.toks + 1 }) : wpAny (model prog w) A (binaryOp .LShift (.int x t) (.int y u)) Q E s := by
  refine PyProof.Rows.lshift_int h0 ?_ h
  have := bits_le a1 a2
  have e : (2:Int)^27 = 134217728 := by decide
  omega
theorem step_shr (h0 : 0 ≤ y) (h : Q (.int (x.fdiv (2 ^ y.toNat)) s.toks) { s with toks := s.toks + 1 }) : wpAny (model prog w) A (binaryOp .RShift (.int x t) (.int y u)) Q E s :=
  PyProof.Rows.rshift_int h0 h
end
end My
open PySem PySem.W PyProof.Rows
local macro_rules | `(tactic| walk_at "binaryOp Mult int int") => `(tactic| (k_here; (with_reducible refine' My.step_mul ?k1 ?k2 ?k3 ?k4 ?_); (case k1 => k_dflt omega); (case k2 => k_dflt omega); (case k3 => k_dflt omega); (case k4 => k_dflt omega)))
local macro_rules | `(tactic| walk_at "binaryOp FloorDiv int int") => `(tactic| (k_here; (with_reducible refine' My.step_div ?k1 ?k2 ?k3 ?_); (case k1 => k_dflt omega); (case k2 => k_dflt omega); (case k3 => k_dflt omega)))
local macro_rules | `(tactic| walk_at "binaryOp Mod int int") => `(tactic| (k_here; (with_reducible refine' My.step_mod ?k1 ?_); (case k1 => k_dflt omega)))
local macro_rules | `(tactic| walk_at "binaryOp LShift int int") => `(tactic| (k_here; (with_reducible refine' My.step_shl ?k1 ?k2 ?k3 ?k4 ?_); (case k1 => k_dflt omega); (case k2 => k_dflt omega); (case k3 => k_dflt omega); (case k4 => k_dflt omega)))
local macro_rules | `(tactic| walk_at "binaryOp RShift int int") => `(tactic| (k_here; (with_reducible refine' My.step_shr ?k1 ?_); (case k1 => k_dflt omega)))
namespace My
open PySem PySem.W PySem.Calls PyProof.Rows
def onesK (a : Int) (k : Nat) : Int := (onesN a.toNat k : Int)
theorem onesK_turn {a : Int} (h : 0 ≤ a) (k : Nat) : onesK a (k + 1) = onesK a k + a.fdiv (2 ^ k) % 2 := by
  unfold onesK
  have e : a.fdiv (2 ^ k) = ((a.toNat / 2 ^ k : Nat) : Int) := by
    rw [Int.fdiv_eq_ediv_of_nonneg _ (Int.le_of_lt (Int.pow_pos (by decide))), Int.natCast_ediv, Int.toNat_of_nonneg h, Int.natCast_pow]
    rfl
  rw [e, onesN_up]
  omega
def onesI (a : Int) : Int := onesK a 128
theorem ones_0 {a : Int} : (0 : Int) = onesK a ([] : List Int).length := by unfold onesK onesN; rfl
theorem ones_t {a o k : Int} {l : List Int} (h0 : 0 ≤ a) (h : o = onesK a l.length) (hk : k = (l.length : Int)) : o + a.fdiv (2 ^ k.toNat) % 2 = onesK a (l ++ [k]).length := by
  rw [List.length_append, List.length_singleton, onesK_turn h0, h, hk, Int.toNat_natCast]
theorem ones_out {a o : Int} (h : o = onesK a (rangeKs 0 ((128 : Int) - 0).toNat).length) : o = onesI a := by
  have e : (rangeKs 0 ((128 : Int) - 0).toNat).length = 128 := by unfold rangeKs; rw [List.length_map, List.length_range]; rfl
  rw [h, e]; rfl
theorem odd_part : ∀ n : Nat, 0 < n → ∃ t m : Nat, n = 2 ^ t * (2 * m + 1) := by
  intro n
  induction n using Nat.strongRecOn with
  | ind n ih =>
    intro h
    rcases Nat.mod_two_eq_zero_or_one n with e | e
    · obtain ⟨t, m, q⟩ := ih (n / 2) (by omega) (by omega)
      refine ⟨t + 1, m, ?_⟩
      have : n = 2 * (n / 2) := by omega
      rw [this, q, Nat.pow_succ, Nat.mul_comm (2 ^ t) 2, Nat.mul_assoc]
    · exact ⟨0, n / 2, by omega⟩
theorem intBits_pos {z : Int} (h : z ≠ 0) : Builtin.Int.intBits z = z.natAbs.log2 + 1 := by
  unfold Builtin.Int.intBits
  rw [if_neg]
  simp [h]
theorem intBits_pow (t : Nat) : Builtin.Int.intBits (2 ^ t) = t + 1 := by
  have p : (0 : Int) < 2 ^ t := Int.pow_pos (by decide)
  rw [intBits_pos (by omega)]
  have e : ((2 : Int) ^ t).natAbs = 2 ^ t := by rw [Int.natAbs_pow]; rfl
  rw [e, Nat.log2_two_pow]
def tz (a : Int) : Int := if a = 0 then 128 else (Builtin.Int.intBits (Builtin.bitAnd a (-a)) : Int) - 1
theorem tz_0 {a : Int} (h : a = 0) : 128 = tz a := by unfold tz; rw [if_pos h]
theorem tz_n {a : Int} (h : ¬ a = 0) : (Builtin.Int.intBits (Builtin.bitAnd a (-a)) : Int) - 1 = tz a := by unfold tz; rw [if_neg h]
theorem tz_eq {a : Int} (h0 : 0 ≤ a) (h1 : a ≤ 340282366920938463463374607431768211455) : tz a = (Sf02.trailing a.toNat : Int) := by
  unfold tz
  split
  · rename_i h; subst h
    show (128 : Int) = (Sf02.trailing 0 : Int)
    rw [trailing_zero]; rfl
  · rename_i h
    obtain ⟨t, m, e⟩ := odd_part a.toNat (by omega)
    have e2 : a = 2 ^ t * (2 * (m : Int) + 1) := by
      have : (a.toNat : Int) = a := by omega
      rw [← this, e, Int.natCast_mul, Int.natCast_pow]; rfl
    have p : 0 < 2 ^ t := Nat.two_pow_pos t
    have ht : t < 128 := by
      rcases Nat.lt_or_ge t 128 with q | q
      · exact q
      · have a1 : 2 ^ 128 ≤ 2 ^ t := Nat.pow_le_pow_right (by decide) q
        have a2 : 2 ^ t * 1 ≤ 2 ^ t * (2 * m + 1) := Nat.mul_le_mul_left _ (by omega)
        have a3 : (2:Nat) ^ 128 = 340282366920938463463374607431768211456 := by decide
        omega
    have low : Builtin.bitAnd a (-a) = 2 ^ t := by rw [e2]; exact kbt_low t m
    rw [low, intBits_pow, trailing_eq (t := t) (by rw [e, Nat.mul_div_cancel_left _ p]; omega) (by rw [e, Nat.mul_mod_right]) ht]
    omega
theorem lz_eq {a : Int} (h0 : 0 ≤ a) (h1 : a ≤ 340282366920938463463374607431768211455) : 128 - (Builtin.Int.intBits a : Int) = (Sf02.leading a.toNat : Int) := by
  by_cases h : a = 0
  · subst h
    show (128 : Int) - 0 = (Sf02.leading 0 : Int)
    rw [leading_zero]; rfl
  · have e : a.natAbs = a.toNat := by omega
    have hn : a.toNat ≠ 0 := by omega
    have k : a.toNat.log2 < 128 := (Nat.log2_lt hn).mpr (by
      have a3 : (2:Nat) ^ 128 = 340282366920938463463374607431768211456 := by decide
      omega)
    rw [intBits_pos h, e, leading_eq (k := a.toNat.log2) (Nat.log2_self_le hn) Nat.lt_log2_self k]
    omega
section
variable {a b : Int} (hp : PySem.Challenge.rw_widewhole_s03_bits.pre [.int a, .int b] = true)
include hp
theorem end_ones (h : b = 0) : PySem.Challenge.rw_widewhole_s03_bits.post [.int a, .int b] (ofPy (PyData.list [PyData.int (onesI a)])) = true := by
  have B := bounds hp
  refine fin1 (l := [onesI a]) hp ?_
  rw [bits_open B.1 B.2.1]
  unfold Sf02.bitsOf; rw [if_pos h]; rfl
theorem end_lead (h : b = 1) : PySem.Challenge.rw_widewhole_s03_bits.post [.int a, .int b] (ofPy (PyData.list [PyData.int (128 - (Builtin.Int.intBits a : Int))])) = true := by
  have B := bounds hp
  refine fin1 (l := [128 - (Builtin.Int.intBits a : Int)]) hp ?_
  rw [bits_open B.1 B.2.1, lz_eq B.1 B.2.1]
  unfold Sf02.bitsOf; rw [if_neg (by omega), if_pos h]
theorem end_trail (h : b = 2) : PySem.Challenge.rw_widewhole_s03_bits.post [.int a, .int b] (ofPy (PyData.list [PyData.int (tz a)])) = true := by
  have B := bounds hp
  refine fin1 (l := [tz a]) hp ?_
  rw [bits_open B.1 B.2.1, tz_eq B.1 B.2.1]
  unfold Sf02.bitsOf; rw [if_neg (by omega), if_neg (by omega), if_pos h]
theorem end_odd (h : b = 3) : PySem.Challenge.rw_widewhole_s03_bits.post [.int a, .int b] (ofPy (PyData.list [PyData.int (onesI a % 2)])) = true := by
  have B := bounds hp
  refine fin1 (l := [onesI a % 2]) hp ?_
  rw [bits_open B.1 B.2.1]
  unfold Sf02.bitsOf; rw [if_neg (by omega), if_neg (by omega), if_neg (by omega), if_pos h]
  congr 1
theorem end_else (h0 : ¬ b = 0) (h1 : ¬ b = 1) (h2 : ¬ b = 2) (h3 : ¬ b = 3) : PySem.Challenge.rw_widewhole_s03_bits.post [.int a, .int b] (ofPy (PyData.list [PyData.int (-1)])) = true := by
  have B := bounds hp
  refine fin1 (l := [-1]) hp ?_
  rw [bits_open B.1 B.2.1]
  unfold Sf02.bitsOf; rw [if_neg h0, if_neg h1, if_neg h2, if_neg h3]
end
theorem step_and1 {prog : Program} {w : World} {A : Around} {E : Value → Shared → Prop} {s : Shared} {x : Int} {t u : Tok} {Q : Value → Shared → Prop} (h : Q (.int (x % 2) s.toks) { s with toks := s.toks + 1 }) : wpAny (model prog w) A (binaryOp .BitAnd (.int x t) (.int 1 u)) Q E s := by
  refine PyProof.Rows.and_int ?_
  have e : Builtin.bitAnd x 1 = x % 2 := kbt_mask x 1
  rw [e]
  exact h
end My
local macro_rules | `(tactic| walk_at "binaryOp BitAnd int int") => `(tactic| (k_here; (with_reducible show wpAny _ _ (binaryOp Operator.BitAnd (Value.int _ _) (Value.int 1 _)) _ _ _); k_dflt (refine My.step_and1 ?_)))
local macro_rules | `(tactic| walk_at "eval Call") => `(tactic| (k_here; (with_reducible show wpAny _ _ (eval (Expr.Call (Expr.Name (Str.ofString "ones_among_bits") _) _ _ _) _) _ _ _); k_dflt (refine Call_ ?_)))
local macro_rules | `(tactic| walk_at "eval Call") => `(tactic| (k_here; (with_reducible show wpAny _ _ (eval (Expr.Call (Expr.Name (Str.ofString "zeros_behind_last_one") _) _ _ _) _) _ _ _); k_dflt (refine Call_ ?_)))
set_option maxRecDepth 100000 in
set_option maxHeartbeats 8000000 in
theorem PySem.Challenge.cw_widewhole_s03_bits_holds : PySem.Challenge.rw_widewhole_s03_bits.Holds := by
  k_with "state" => (first | exact My.ones_0 | (refine My.ones_t ?_ ?_ ?_ <;> first | assumption | omega))
  k_with "pyIter ref" => k_state_given ["a"] (fun a pre ones => ones = My.onesK a pre.length) "ones"
  k_with "tree" => (first | exact My.ones_out (by assumption) | exact My.tz_0 (by omega) | exact My.tz_n (by omega))
  k_with "call ref" => k_call_rec "ones_among_bits" My.onesI (fun (a : Int) => 0 ≤ a ∧ a ≤ 340282366920938463463374607431768211455) (fun (_ : Int) => 0)
  k_with "call ref" => k_call_rec "zeros_behind_last_one" My.tz (fun (a : Int) => 0 ≤ a ∧ a ≤ 340282366920938463463374607431768211455) (fun (_ : Int) => 0)
  w_on; k_headS; (case hw => exact ⟨[.int 0, .int 0], by decide +kernel, by decide +kernel⟩); w_strict (k_goS0; (with_reducible rename OpenSpec.pre _ _ = true => osP); (have osB := My.bounds osP); (all_goals try k_fold); k_steps; (all_goals (try (w_end; sp_is; wrow_close))); (all_goals (try k_data)); all_goals first | sp_left | w_report)
  all_goals first
    | exact My.end_ones hpre (by omega)
    | exact My.end_lead hpre (by omega)
    | exact My.end_trail hpre (by omega)
    | exact My.end_odd hpre (by omega)
    | exact My.end_else hpre (by omega) (by omega) (by omega) (by omega)
#print axioms PySem.Challenge.cw_widewhole_s03_bits_holds
