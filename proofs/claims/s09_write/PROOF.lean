import PyProof.Rows.All
import KE.OsGo
import KE.OsArgs
import PySem.Challenge.RW_widewhole_s09_write
set_option Elab.async false
namespace My
open PySem
theorem p127 : (2:Int) ^ 127 = 170141183460469231731687303715884105728 := by decide
theorem p127n : (2:Nat) ^ 127 = 170141183460469231731687303715884105728 := by decide
theorem W_lit : Sf02.W = 340282366920938463463374607431768211456 := by decide
/- bytes, the lowest first -/
def by8 (z : Int) (n : Nat) : List Int := (List.range n).map fun (k : Nat) => z / 256 ^ k % 256
theorem told_le (n k : Nat) : Sf02Neutral.bytesTold (Sf02.le k n) = by8 (n : Int) k := by
  unfold Sf02Neutral.bytesTold Sf02.le by8
  rw [List.map_map]
  apply List.map_congr_left
  intro i _
  show ((UInt8.ofNat (n / 256 ^ i % 256)).toNat : Int) = _
  have e : (UInt8.ofNat (n / 256 ^ i % 256)).toNat = n / 256 ^ i % 256 := by
    rw [UInt8.toNat_ofNat']; exact Nat.mod_mod _ _
  rw [e]; simp
theorem pmod (z : Int) {p m : Int} (hp : 0 < p) (hm : 0 < m) : (z % (p * m)) / p = z / p % m := by
  have hne : p ≠ 0 := by omega
  have e : z = z % (p * m) + p * (m * (z / (p * m))) := by
    have := Int.emod_add_mul_ediv z (p * m)
    rw [Int.mul_assoc] at this; omega
  have e2 : z / p = (z % (p * m)) / p + m * (z / (p * m)) := by
    conv => lhs; rw [e]
    rw [Int.add_mul_ediv_left _ _ hne]
  have h0 : 0 ≤ z % (p * m) := Int.emod_nonneg _ (by have := Int.mul_pos hp hm; omega)
  have h1 : z % (p * m) < p * m := Int.emod_lt_of_pos _ (Int.mul_pos hp hm)
  rw [e2, Int.add_mul_emod_self_left, Int.emod_eq_of_lt (Int.ediv_nonneg h0 (by omega)) (Int.ediv_lt_of_lt_mul hp (by rw [Int.mul_comm m p]; exact h1))]
theorem by8_mod (z : Int) (n : Nat) : by8 (z % 256 ^ n) n = by8 z n := by
  unfold by8
  apply List.map_congr_left
  intro k hk
  have hk' : k < n := List.mem_range.mp hk
  have e : (256:Int) ^ n = 256 ^ k * 256 ^ (n - k) := by rw [← Int.pow_add]; congr 1; omega
  have e3 : (256:Int) ^ (n - k) = 256 * 256 ^ (n - k - 1) := by
    have : n - k = (n - k - 1) + 1 := by omega
    conv => lhs; rw [this, Int.pow_succ]
    rw [Int.mul_comm]
  rw [e, pmod z (Int.pow_pos (by decide)) (Int.pow_pos (by decide)), e3, Int.emod_emod_of_dvd _ ⟨_, rfl⟩]
theorem told_bits (z : Int) : Sf02Neutral.bytesTold (Sf02.le 16 (Sf02.bits z)) = by8 z 16 := by
  rw [told_le]
  have e : ((Sf02.bits z : Nat) : Int) = z % 256 ^ 16 := by
    unfold Sf02.bits
    rw [W_lit]
    have : (256:Int) ^ 16 = 340282366920938463463374607431768211456 := by decide
    rw [this]; omega
  rw [e, by8_mod]
theorem by8_congr {z y : Int} {n : Nat} (h : z % 256 ^ n = y % 256 ^ n) : by8 z n = by8 y n := by
  rw [← by8_mod z, h, by8_mod]

def sgn (x : Int) : Int := if 170141183460469231731687303715884105728 ≤ x then x - 340282366920938463463374607431768211456 else x
def fitS (x : Int) : Bool := decide (-170141183460469231731687303715884105728 ≤ x) && decide (x < 170141183460469231731687303715884105728)
def fitP (x : Int) : Bool := decide (0 ≤ x) && decide (x < 340282366920938463463374607431768211456)
theorem mod_W {x : Int} (h0 : 0 ≤ x) (h1 : x ≤ 340282366920938463463374607431768211455) : x.toNat % Sf02.W = x.toNat := by
  rw [W_lit]; omega
theorem mod_Wi {x : Int} (h0 : 0 ≤ x) (h1 : x ≤ 340282366920938463463374607431768211455) : (((x.toNat % Sf02.W : Nat)) : Int) = x := by
  rw [W_lit]; omega
theorem signed_eq {x : Int} (h0 : 0 ≤ x) (h1 : x ≤ 340282366920938463463374607431768211455) : Sf02.signed x.toNat = sgn x := by
  have e := mod_Wi h0 h1
  unfold Sf02.signed sgn
  rw [e, p127n]
  rw [W_lit] at *
  split <;> split <;> omega
theorem fits_S (z : Int) : Sf02.fits false z = fitS z := by
  unfold Sf02.fits fitS
  rw [p127]; rfl
theorem fits_P (z : Int) : Sf02.fits true z = fitP z := by
  unfold Sf02.fits fitP
  rw [W_lit]; rfl
end My
namespace My
/- a digit's letter; the digits of a number above 0, none of 0 -/
def chr (d : Int) : Int := if d < 10 then 48 + d else 87 + d
def dgs (b : Int) : Nat → Int → List Int
  | 0, _ => []
  | k + 1, n => if n = 0 then [] else dgs b k (n / b) ++ [chr (n % b)]
theorem charOf_eq {d : Nat} (h : d < 100) : (((Sf02.charOf d).toNat : Nat) : Int) = chr d := by
  unfold Sf02.charOf chr
  rw [UInt8.toNat_ofNat']
  split <;> split <;> omega
theorem dgs_zero (b : Int) (k : Nat) : dgs b k 0 = [] := by cases k <;> simp [dgs]
theorem digits_eq {b : Int} (b0 : 2 ≤ b) (b1 : b ≤ 36) : ∀ (k n : Nat), 0 < n → Sf02Neutral.bytesTold (Sf02.digits b.toNat k n) = dgs b k n
  | 0, _, _ => rfl
  | k + 1, n, hn => by
    have eb : (b.toNat : Int) = b := by omega
    show Sf02Neutral.bytesTold ((if n < b.toNat then [] else Sf02.digits b.toNat k (n / b.toNat)) ++ [Sf02.charOf (n % b.toNat)]) = (if (n : Int) = 0 then [] else dgs b k ((n : Int) / b) ++ [chr ((n : Int) % b)])
    rw [if_neg (by omega : ¬ (n : Int) = 0)]
    have m : ((n % b.toNat : Nat) : Int) = (n : Int) % b := by rw [Int.natCast_emod, eb]
    have q : ((n / b.toNat : Nat) : Int) = (n : Int) / b := by rw [Int.natCast_ediv, eb]
    have hm : n % b.toNat < 100 := by have := Nat.mod_lt n (show b.toNat > 0 by omega); omega
    unfold Sf02Neutral.bytesTold
    rw [List.map_append]
    congr 1
    · by_cases h : n < b.toNat
      · rw [if_pos h, ← q, Nat.div_eq_of_lt h]
        exact (dgs_zero b k).symm
      · rw [if_neg h, ← q]
        exact digits_eq b0 b1 k (n / b.toNat) (Nat.div_pos (by omega) (by omega))
    · show [(((Sf02.charOf (n % b.toNat)).toNat : Nat) : Int)] = _
      rw [charOf_eq hm, m]
/- more room changes nothing -/
theorem dgs_fuel {b : Int} (hb : 2 ≤ b) : ∀ (k : Nat) (n : Int), 0 ≤ n → n < 2 ^ k → ∀ j, dgs b (k + j) n = dgs b k n
  | 0, n, h0, h1, j => by
    have : n = 0 := by simp at h1; omega
    subst this; rw [dgs_zero, dgs_zero]
  | k + 1, n, h0, h1, j => by
    rw [show k + 1 + j = (k + j) + 1 by omega]
    show (if n = 0 then [] else dgs b (k + j) (n / b) ++ [chr (n % b)]) = (if n = 0 then [] else dgs b k (n / b) ++ [chr (n % b)])
    by_cases hn : n = 0
    · rw [if_pos hn, if_pos hn]
    · rw [if_neg hn, if_neg hn, dgs_fuel hb k (n / b) (Int.ediv_nonneg h0 (by omega))]
      have h2 : n < 2 ^ k * 2 := by rw [← Int.pow_succ]; exact h1
      have h3 : (0:Int) < 2 ^ k := Int.pow_pos (by decide)
      apply Int.ediv_lt_of_lt_mul (by omega)
      have h4 : 2 ^ k * 2 ≤ 2 ^ k * b := Int.mul_le_mul_of_nonneg_left hb (by omega)
      omega
def dg (b n : Int) : List Int := dgs b 128 n
theorem dg_zero (b : Int) : dg b 0 = [] := dgs_zero b 128
theorem dg_step {b n : Int} (hb : 2 ≤ b) (h0 : 0 < n) (h1 : n < 340282366920938463463374607431768211456) : dg b n = dg b (n / b) ++ [chr (n % b)] := by
  have e : dgs b (127 + 1) n = if n = 0 then [] else dgs b 127 (n / b) ++ [chr (n % b)] := rfl
  show dgs b (127 + 1) n = dgs b (127 + 1) (n / b) ++ _
  rw [e, if_neg (by omega), dgs_fuel hb 127 (n / b) (Int.ediv_nonneg (by omega) (by omega))]
  have p : (2:Int) ^ 127 = 170141183460469231731687303715884105728 := by decide
  rw [p]
  apply Int.ediv_lt_of_lt_mul (by omega)
  omega
theorem digits_dg {b : Int} (b0 : 2 ≤ b) (b1 : b ≤ 36) {n : Nat} (h0 : 0 < n) (h1 : n < 340282366920938463463374607431768211456) : Sf02Neutral.bytesTold (Sf02.digits b.toNat 129 n) = dg b n := by
  rw [digits_eq b0 b1 129 n h0]
  have p : (2:Int) ^ 128 = 340282366920938463463374607431768211456 := by decide
  exact dgs_fuel b0 128 n (by omega) (by rw [p]; omega) 1
/- the letters of a signed number -/
def txt (b x : Int) : List Int := if x = 0 then [48] else if x < 0 then 45 :: dg b (-x) else dg b x
theorem digits_0 {b : Int} (b0 : 2 ≤ b) : Sf02Neutral.bytesTold (Sf02.digits b.toNat 129 0) = [48] := by
  show Sf02Neutral.bytesTold ((if 0 < b.toNat then [] else Sf02.digits b.toNat 128 (0 / b.toNat)) ++ [Sf02.charOf (0 % b.toNat)]) = [48]
  rw [if_pos (by omega), Nat.zero_mod]; rfl
theorem text_eq {b x : Int} (b0 : 2 ≤ b) (b1 : b ≤ 36) (h0 : -340282366920938463463374607431768211456 < x) (h1 : x < 340282366920938463463374607431768211456) : Sf02Neutral.bytesTold (Sf02.text b.toNat x) = txt b x := by
  unfold Sf02.text txt
  by_cases hz : x = 0
  · subst hz; rw [if_neg (by omega), if_pos rfl]; exact digits_0 b0
  · rw [if_neg hz]
    by_cases hx : x < 0
    · rw [if_pos hx, if_pos hx]
      show 45 :: Sf02Neutral.bytesTold (Sf02.digits b.toNat 129 x.natAbs) = _
      rw [digits_dg b0 b1 (by omega) (by omega)]
      congr 2; omega
    · rw [if_neg hx, if_neg hx, digits_dg b0 b1 (by omega) (by omega)]
      congr 1; omega
theorem write_bad {a b : Int} (h : b < 2 ∨ 36 < b) : PySf02.write a b = [-1] := by
  have hb : Sf02.isBase b = false := by
    unfold Sf02.isBase; rw [Bool.and_eq_false_iff, decide_eq_false_iff_not, decide_eq_false_iff_not]; omega
  show Sf02Neutral.listOf (if Sf02.isBase b = false then Sf02.says (-1) else _) = _
  rw [if_pos hb]; rfl
theorem write_good {a b : Int} (a0 : 0 ≤ a) (a1 : a ≤ 340282366920938463463374607431768211455) (b0 : 2 ≤ b) (b1 : b ≤ 36) :
    PySf02.write a b = ((txt b (sgn a)).length : Int) :: ((txt b (sgn a)).length : Int) :: txt b (sgn a) := by
  have hb : ¬ Sf02.isBase b = false := by
    unfold Sf02.isBase; rw [Bool.and_eq_false_iff, decide_eq_false_iff_not, decide_eq_false_iff_not]; omega
  have hs : -340282366920938463463374607431768211456 < sgn a ∧ sgn a < 340282366920938463463374607431768211456 := by unfold sgn; split <;> omega
  have e := text_eq b0 b1 hs.1 hs.2
  have el : (Sf02.text b.toNat (sgn a)).length = (txt b (sgn a)).length := by rw [← e]; unfold Sf02Neutral.bytesTold; rw [List.length_map]
  show Sf02Neutral.listOf (if Sf02.isBase b = false then Sf02.says (-1) else (⟨((Sf02.text b.toNat (Sf02.signed a.toNat)).length : Nat), [Sf02.text b.toNat (Sf02.signed a.toNat)]⟩ : Sf02.Ans)) = _
  rw [if_neg hb, signed_eq a0 a1, el]
  show _ :: (Sf02Neutral.listed (Sf02Neutral.bytesTold (Sf02.text b.toNat (sgn a))) ++ []) = _
  rw [e, List.append_nil]; rfl
end My
namespace My
open PySem PySem.W PySem.Calls PyProof.Rows
set_option maxRecDepth 100000 in
theorem said : PySem.Challenge.rw_widewhole_s09_write.wellSaid = true := by decide +kernel
theorem in2 {l1 h1 l2 h2 x y : Int} {u : Unit} (w : Codec.withinAll [.int l1 h1, .int l2 h2] (x, y, u) = true) : (l1 ≤ x ∧ x ≤ h1) ∧ l2 ≤ y ∧ y ≤ h2 := by
  have w' : (Codec.inInt l1 h1 x && (Codec.inInt l2 h2 y && true)) = true := w
  simp only [Codec.inInt, Bool.and_eq_true, decide_eq_true_eq] at w'
  exact ⟨w'.1, w'.2.1⟩
theorem bounds {a b : Int} (h : PySem.Challenge.rw_widewhole_s09_write.pre [.int a, .int b] = true) : 0 ≤ a ∧ a ≤ 340282366920938463463374607431768211455 ∧ (-2147483648) ≤ b ∧ b ≤ 2147483647 := by
  obtain ⟨v, w, q, e⟩ := os_pre said h
  obtain ⟨x, y, u⟩ := v
  have e1 := os_j_int (List.cons.inj e).1
  have e2 := os_j_int (List.cons.inj (List.cons.inj e).2).1
  subst e1 e2
  have b := in2 w
  exact ⟨b.1.1, b.1.2, b.2.1, b.2.2⟩
theorem fin1 {a b : Int} {l : List Int} (hp : PySem.Challenge.rw_widewhole_s09_write.pre [.int a, .int b] = true) (h : PySf02.write a b = l) : PySem.Challenge.rw_widewhole_s09_write.post [.int a, .int b] (ofPy (PyData.list (l.map PyData.int))) = true := by
  obtain ⟨v, w, q, e⟩ := os_pre said hp
  obtain ⟨x, y, u⟩ := v
  have e1 := os_j_int (List.cons.inj e).1
  have e2 := os_j_int (List.cons.inj (List.cons.inj e).2).1
  subst e1 e2
  refine os_shut said w ?_
  show _ = WData.list ((PySf02.write a b).map WData.int)
  rw [h]
  exact os_list rfl
theorem fin2 {a b : Int} {l : List Int} (hp : PySem.Challenge.rw_widewhole_s09_write.pre [.int a, .int b] = true) (h : PySf02.write a b = l) : PySem.Challenge.rw_widewhole_s09_write.post [.int a, .int b] (WData.list (ofPys (l.map PyData.int))) = true := by
  have f := fin1 hp h
  rw [os_list rfl] at f
  rw [os_ofPys_ints]
  exact f
end My
namespace My
open PySem PySem.W PySem.Calls PyProof.Rows
theorem bits_le {k : Int} (h1 : -115792089237316195423570985008687907853269984665640564039457584007913129639936 ≤ k) (h2 : k ≤ 115792089237316195423570985008687907853269984665640564039457584007913129639936) : Builtin.Int.intBits k ≤ 257 := by
  unfold Builtin.Int.intBits
  split
  · exact Nat.zero_le _
  · have hn : k.natAbs < 2 ^ 257 := by
      have e : (2:Nat)^257 = 231584178474632390847141970017375815706539969331281128078915168015826259279872 := by decide
      omega
    have : k.natAbs.log2 < 257 := by
      rcases Nat.eq_zero_or_pos k.natAbs with h0 | hp
      · rw [h0]; decide
      · exact (Nat.log2_lt (Nat.ne_of_gt hp)).mpr hn
    omega
theorem log_le {k : Int} (h1 : -115792089237316195423570985008687907853269984665640564039457584007913129639936 ≤ k) (h2 : k ≤ 115792089237316195423570985008687907853269984665640564039457584007913129639936) : k.natAbs.log2 < 9000 := by
  have hn : k.natAbs < 2 ^ 257 := by
    have e : (2:Nat)^257 = 231584178474632390847141970017375815706539969331281128078915168015826259279872 := by decide
    omega
  have : k.natAbs.log2 < 257 := by
    rcases Nat.eq_zero_or_pos k.natAbs with h0 | hp
    · rw [h0]; decide
    · exact (Nat.log2_lt (Nat.ne_of_gt hp)).mpr hn
  omega
theorem walk8 (z : Int) (n : Nat) : List.map (fun k' => Builtin.bitAnd (z.fdiv (2 ^ (8 * k').toNat)) 255) (rangeKs 0 n) = by8 z n := by
  unfold rangeKs by8
  rw [List.map_map]
  apply List.map_congr_left
  intro k _
  show Builtin.bitAnd (z.fdiv (2 ^ (8 * (0 + (k : Int))).toNat)) 255 = z / 256 ^ k % 256
  have e : (8 * (0 + (k : Int))).toNat = 8 * k := by omega
  have m : Builtin.bitAnd (z.fdiv (2 ^ (8 * k))) 255 = z.fdiv (2 ^ (8 * k)) % 256 := kbt_mask _ 8
  rw [e, m, Int.fdiv_eq_ediv_of_nonneg _ (Int.le_of_lt (Int.pow_pos (by decide))), Int.pow_mul]
  rfl
theorem sgn_fact (x : Int) : (170141183460469231731687303715884105728 ≤ x ∧ sgn x = x - 340282366920938463463374607431768211456) ∨ (x < 170141183460469231731687303715884105728 ∧ sgn x = x) := by
  unfold sgn; split <;> omega
theorem sgn_a {x : Int} (h : 170141183460469231731687303715884105728 ≤ x) : x - 340282366920938463463374607431768211456 = sgn x := by unfold sgn; rw [if_pos h]
theorem sgn_b {x : Int} (h : x < 170141183460469231731687303715884105728) : x = sgn x := by unfold sgn; rw [if_neg (by omega)]
theorem fitS_a {x : Int} (h : x < -170141183460469231731687303715884105728) : decide (-170141183460469231731687303715884105728 ≤ x) = fitS x := by
  unfold fitS; rw [decide_eq_false (by omega)]; rfl
theorem fitS_b {x : Int} (h : -170141183460469231731687303715884105728 ≤ x) : decide (x < 170141183460469231731687303715884105728) = fitS x := by
  unfold fitS; rw [decide_eq_true h]; rfl
theorem fitP_a {x : Int} (h : x < 0) : decide (0 ≤ x) = fitP x := by
  unfold fitP; rw [decide_eq_false (by omega)]; rfl
theorem fitP_b {x : Int} (h : 0 ≤ x) : decide (x < 340282366920938463463374607431768211456) = fitP x := by
  unfold fitP; rw [decide_eq_true h]; rfl
section
variable {prog : Program} {w : World} {A : Around} {E : Value → Shared → Prop} {s : Shared} {x y : Int} {t u : Tok} {Q : Value → Shared → Prop}
theorem step_mul (a1 : -115792089237316195423570985008687907853269984665640564039457584007913129639936 ≤ x) (a2 : x ≤ 115792089237316195423570985008687907853269984665640564039457584007913129639936) (b1 : -115792089237316195423570985008687907853269984665640564039457584007913129639936 ≤ y) (b2 : y ≤ 115792089237316195423570985008687907853269984665640564039457584007913129639936) (h : Q (.int (x * y) s.toks) { s with toks := s.toks + 1 }) : wpAny (model prog w) A (binaryOp .Mult (.int x t) (.int y u)) Q E s :=
  PyProof.Rows.mul_int h (PySem.IntMulOk.of_bits (Nat.le_trans (bits_le a1 a2) (by decide)) (Nat.le_trans (bits_le b1 b2) (by decide)))
theorem step_div (hb : y ≠ 0) (b1 : -115792089237316195423570985008687907853269984665640564039457584007913129639936 ≤ y) (b2 : y ≤ 115792089237316195423570985008687907853269984665640564039457584007913129639936) (h : Q (.int (x.fdiv y) s.toks) { s with toks := s.toks + 1 }) : wpAny (model prog w) A (binaryOp .FloorDiv (.int x t) (.int y u)) Q E s :=
  PyProof.Rows.floordiv_int hb h (Or.inl (PyProof.noPylong_of_log2 (log_le b1 b2)))
theorem step_mod (hb : y ≠ 0) (h : Q (.int (x.fmod y) s.toks) { s with toks := s.toks + 1 }) : wpAny (model prog w) A (binaryOp .Mod (.int x t) (.int y u)) Q E s :=
  PyProof.Rows.mod_int hb h
theorem step_shl (a1 : -115792089237316195423570985008687907853269984665640564039457584007913129639936 ≤ x) (a2 : x ≤ 115792089237316195423570985008687907853269984665640564039457584007913129639936) (h0 : 0 ≤ y) (h1 : y ≤ 3000) (h : Q (.int (x * 2 ^ y.toNat) s.toks) { s with toks := s.toks + 1 }) : wpAny (model prog w) A (binaryOp .LShift (.int x t) (.int y u)) Q E s := by
  refine PyProof.Rows.lshift_int h0 ?_ h
  have := bits_le a1 a2
  have e : (2:Int)^27 = 134217728 := by decide
  omega
theorem step_shr (h0 : 0 ≤ y) (h : Q (.int (x.fdiv (2 ^ y.toNat)) s.toks) { s with toks := s.toks + 1 }) : wpAny (model prog w) A (binaryOp .RShift (.int x t) (.int y u)) Q E s :=
  PyProof.Rows.rshift_int h0 h
end
end My
open PySem PySem.W PyProof.Rows
local macro_rules | `(tactic| walk_at "binaryOp Mult int int") => `(tactic| (k_here; (with_reducible refine' My.step_mul ?k1 ?k2 ?k3 ?k4 ?_); (case k1 => k_dflt omega); (case k2 => k_dflt omega); (case k3 => k_dflt omega); (case k4 => k_dflt omega)))
local macro_rules | `(tactic| walk_at "binaryOp FloorDiv int int") => `(tactic| (k_here; (with_reducible refine' My.step_div ?k1 ?k2 ?k3 ?_); (case k1 => k_dflt omega); (case k2 => k_dflt omega); (case k3 => k_dflt omega)))
local macro_rules | `(tactic| walk_at "binaryOp Mod int int") => `(tactic| (k_here; (with_reducible refine' My.step_mod ?k1 ?_); (case k1 => k_dflt omega)))
local macro_rules | `(tactic| walk_at "binaryOp LShift int int") => `(tactic| (k_here; (with_reducible refine' My.step_shl ?k1 ?k2 ?k3 ?k4 ?_); (case k1 => k_dflt omega); (case k2 => k_dflt omega); (case k3 => k_dflt omega); (case k4 => k_dflt omega)))
local macro_rules | `(tactic| walk_at "binaryOp RShift int int") => `(tactic| (k_here; (with_reducible refine' My.step_shr ?k1 ?_); (case k1 => k_dflt omega)))
namespace My
open PySem PySem.W PySem.Calls PyProof.Rows
theorem step_ord {prog : Program} {w : World} {A : Around} {E : Value → Shared → Prop} {s : Shared} {x : Str} {t : Tok} {Q : Value → Shared → Prop} (c : Int) (h1 : x.length = 1) (e : ((x.cps.getD 0 0 : Nat) : Int) = c) (h : Q (.int c s.toks) { s with toks := s.toks + 1 }) : wpAny (model prog w) A (call (.builtin "ord") [.str x t]) Q E s :=
  ord_of_one h1 (by rw [e]; exact h)
end My
open PySem PySem.W PyProof.Rows
local macro_rules | `(tactic| walk_at "call builtin:ord") => `(tactic| (k_here; (with_reducible show wpAny _ _ (call (Value.builtin "ord") [Value.str (Str.ofString "-") _]) _ _ _); k_dflt (refine My.step_ord 45 (by decide) (by decide) ?_)))
local macro_rules | `(tactic| walk_at "call builtin:ord") => `(tactic| (k_here; (with_reducible show wpAny _ _ (call (Value.builtin "ord") [Value.str (Str.ofString "0") _]) _ _ _); k_dflt (refine My.step_ord 48 (by decide) (by decide) ?_)))
local macro_rules | `(tactic| walk_at "call builtin:ord") => `(tactic| (k_here; (with_reducible show wpAny _ _ (call (Value.builtin "ord") [Value.str (Str.ofString "9") _]) _ _ _); k_dflt (refine My.step_ord 57 (by decide) (by decide) ?_)))
local macro_rules | `(tactic| walk_at "call builtin:ord") => `(tactic| (k_here; (with_reducible show wpAny _ _ (call (Value.builtin "ord") [Value.str (Str.ofString "a") _]) _ _ _); k_dflt (refine My.step_ord 97 (by decide) (by decide) ?_)))
local macro_rules | `(tactic| walk_at "call builtin:ord") => `(tactic| (k_here; (with_reducible show wpAny _ _ (call (Value.builtin "ord") [Value.str (Str.ofString "z") _]) _ _ _); k_dflt (refine My.step_ord 122 (by decide) (by decide) ?_)))
local macro_rules | `(tactic| walk_at "call builtin:ord") => `(tactic| (k_here; (with_reducible show wpAny _ _ (call (Value.builtin "ord") [Value.str (Str.ofString "A") _]) _ _ _); k_dflt (refine My.step_ord 65 (by decide) (by decide) ?_)))
local macro_rules | `(tactic| walk_at "call builtin:ord") => `(tactic| (k_here; (with_reducible show wpAny _ _ (call (Value.builtin "ord") [Value.str (Str.ofString "Z") _]) _ _ _); k_dflt (refine My.step_ord 90 (by decide) (by decide) ?_)))
namespace My
open PySem PySem.W PySem.Calls PyProof.Rows
theorem chr_a {d : Int} (h : d < 10) : 48 + d = chr d := by unfold chr; rw [if_pos h]
theorem chr_b {d : Int} (h : ¬ d < 10) : 97 + d - 10 = chr d := by unfold chr; rw [if_neg h]; omega
def dg0 (b n : Int) : List Int := if n = 0 then [48] else dg b n
structure WI (n b r : Int) (l : List Int) : Prop where
  eq : dg b r ++ l.reverse = dg0 b n
  len : r * 2 ^ l.length ≤ n
theorem w_start {n b q r : Int} (hn0 : 0 ≤ n) (hn1 : n ≤ 170141183460469231731687303715884105728) (hb : 2 ≤ b) (hq : q = n / b) (hr : r = n % b) : 0 ≤ q ∧ q ≤ n ∧ ([chr r]).length ≤ 129 ∧ WI n b q [chr r] := by
  refine ⟨by rw [hq]; exact Int.ediv_nonneg hn0 (by omega), by rw [hq]; exact Int.ediv_le_self b hn0, (show 1 ≤ 129 by decide), ?_, ?_⟩
  · show dg b q ++ [chr r] = dg0 b n
    unfold dg0
    by_cases h : n = 0
    · subst h
      rw [if_pos rfl, hq, hr, Int.zero_ediv, Int.zero_emod, dg_zero]; rfl
    · rw [if_neg h, hq, hr]
      exact (dg_step hb (by omega) (by omega)).symm
  · show q * 2 ^ 1 ≤ n
    have e : (2 : Int) ^ 1 = 2 := rfl
    rw [e, hq]
    have h0 := Int.ediv_nonneg hn0 (show 0 ≤ b by omega)
    have h1 : n / b * 2 ≤ n / b * b := Int.mul_le_mul_of_nonneg_left hb h0
    have h2 := Int.ediv_mul_le n (show b ≠ 0 by omega)
    omega
theorem w_turn {n b x q r : Int} {l : List Int} (h : WI n b x l) (hx : 0 < x) (hxn : x ≤ n) (hn1 : n ≤ 170141183460469231731687303715884105728) (hb : 2 ≤ b) (hq : q = x / b) (hr : r = x % b) : 0 ≤ q ∧ q ≤ n ∧ (l ++ [chr r]).length ≤ 129 ∧ WI n b q (l ++ [chr r]) := by
  have q0 : 0 ≤ q := by rw [hq]; exact Int.ediv_nonneg (by omega) (by omega)
  have q1 : q ≤ x := by rw [hq]; exact Int.ediv_le_self b (by omega)
  have pw : (0 : Int) < 2 ^ l.length := Int.pow_pos (by decide)
  have ll : l.length ≤ 127 := by
    rcases Nat.lt_or_ge l.length 128 with k | k
    · omega
    · have a1 : (2 : Nat) ^ 128 ≤ 2 ^ l.length := Nat.pow_le_pow_right (by decide) k
      have a2 : ((2 ^ l.length : Nat) : Int) = 2 ^ l.length := by rw [Int.natCast_pow]; rfl
      have a3 : (2 : Nat) ^ 128 = 340282366920938463463374607431768211456 := by decide
      have a4 : 1 * 2 ^ l.length ≤ x * 2 ^ l.length := Int.mul_le_mul_of_nonneg_right (by omega) (by omega)
      have a5 := h.len
      omega
  refine ⟨q0, by omega, by rw [List.length_append, List.length_singleton]; omega, ?_, ?_⟩
  · rw [List.reverse_append, ← h.eq, dg_step hb hx (by omega), hq, hr]
    simp
  · rw [List.length_append, List.length_singleton, Int.pow_succ]
    have h1 : q * 2 ≤ x := by
      have h1 : x / b * 2 ≤ x / b * b := Int.mul_le_mul_of_nonneg_left hb (by omega)
      have h2 := Int.ediv_mul_le x (show b ≠ 0 by omega)
      omega
    have h2 : (q * 2) * 2 ^ l.length ≤ x * 2 ^ l.length := Int.mul_le_mul_of_nonneg_right h1 (by omega)
    have h3 := h.len
    have h4 : q * (2 ^ l.length * 2) = (q * 2) * 2 ^ l.length := by
      rw [Int.mul_comm (2 ^ l.length) 2, Int.mul_assoc]
    omega
section
variable {prog : Program} {w : World} {A : Around} {E : Value → Shared → Prop} {s : Shared} {x y z : Int} {t u : Tok} {Q : Value → Shared → Prop}
theorem step_modQ (hb : 0 < y) (h : ∀ r, r = x % y → 0 ≤ r → r < y → Q (.int r s.toks) { s with toks := s.toks + 1 }) : wpAny (model prog w) A (binaryOp .Mod (.int x t) (.int y u)) Q E s := by
  refine PyProof.Rows.mod_int (by omega) ?_
  rw [Int.fmod_eq_emod_of_nonneg x (by omega)]
  exact h _ rfl (Int.emod_nonneg _ (by omega)) (Int.emod_lt_of_pos _ hb)
theorem step_divQ (hx : 0 ≤ x) (hb : 2 ≤ y) (b2 : y ≤ 115792089237316195423570985008687907853269984665640564039457584007913129639936) (h : ∀ q, q = x / y → 0 ≤ q → q ≤ x → (q < x ∨ x = 0) → Q (.int q s.toks) { s with toks := s.toks + 1 }) : wpAny (model prog w) A (binaryOp .FloorDiv (.int x t) (.int y u)) Q E s := by
  refine step_div (by omega) (by omega) b2 ?_
  rw [Int.fdiv_eq_ediv_of_nonneg x (by omega)]
  refine h _ rfl (Int.ediv_nonneg hx (by omega)) (Int.ediv_le_self _ hx) ?_
  by_cases e : x = 0
  · exact .inr e
  · refine .inl (Int.ediv_lt_of_lt_mul (by omega) ?_)
    have : x * 2 ≤ x * y := Int.mul_le_mul_of_nonneg_left hb hx
    omega
end
section
variable {prog : Program} {w : World} {A : Around} {E : Value → Shared → Prop} {s : Shared} {g : Heap} {L D : Addr} {m : Str → Option Value} {ns ns' : List (Addr × Obj)} {c : Nat} {us : List Value} {l : List Int}
theorem step_rev {Q : Value → Shared → Prop} (F : Fr g L s.heap m) (N : News g L s.heap ns) (U : Upd D (listOf us.toArray c) (listOf us.reverse.toArray c) ns ns') (hi : IntsAre us l) (hz : l.length ≤ 1000)
    (h : ∀ h', Fr g L h' m → News g L h' ns' → IntsAre us.reverse l.reverse → l.reverse.length ≤ 1000 → Q .none { s with heap := h' }) : wpAny (model prog w) A (call (.builtin "list.reverse") [.ref D]) Q E s := by
  refine kl_reverse F N (l := us.reverse) (by simp) U ?_ fun h' F' N' => h h' F' N' (IntsAre.reverse hi) (by rw [List.length_reverse]; exact hz)
  have e := IntsAre.length hi
  rw [PySem.sizeLine_eq]
  show us.length ≤ _
  omega
end
section
variable {prog : Program} {w : World} {A : Around} {E : Value → Shared → Prop} {s : Shared} {g : Heap} {L D : Addr} {m : Str → Option Value} {ns ns' : List (Addr × Obj)} {c : Nat} {us : List Value} {l : List Int} {t : Tok}
theorem step_app {Q : Value → Shared → Prop} (F : Fr g L s.heap m) (N : News g L s.heap ns) (U : Upd D (listOf us.toArray c) (listOf (us ++ [Value.int 45 t]).toArray (c + 1)) ns ns') (hi : IntsAre us l) (hz : l.length ≤ 1000)
    (h : ∀ h', Fr g L h' m → News g L h' ns' → IntsAre (us ++ [Value.int 45 t]) (l ++ [45]) → (l ++ [45]).length ≤ l.length + 1 → Q .none { s with heap := h' }) : wpAny (model prog w) A (call (.builtin "list.append") [.ref D, .int 45 t]) Q E s := by
  have e := IntsAre.length hi
  refine append_K F N (by rw [List.push_toArray]; exact U) (fun h' F' N' => h h' F' N' (IntsAre.append hi (.cons _ _ .nil)) (by simp)) ?_
  rw [PySem.sizeLine_eq, List.size_toArray]
  omega
end
section
variable {a b : Int} (hp : PySem.Challenge.rw_widewhole_s09_write.pre [.int a, .int b] = true)
include hp
theorem end_bad (h : b < 2 ∨ 36 < b) : PySem.Challenge.rw_widewhole_s09_write.post [.int a, .int b] (ofPy (PyData.list [PyData.int (-1)])) = true := fin1 (l := [-1]) hp (write_bad h)
theorem end_list {l : List Int} (b0 : 2 ≤ b) (b1 : b ≤ 36) (h : l = txt b (sgn a)) : PySem.Challenge.rw_widewhole_s09_write.post [.int a, .int b] (WData.list (ofPys (List.map PyData.int ([(l.length : Int), (l.length : Int)] ++ l)))) = true := by
  have B := bounds hp
  refine fin2 hp ?_
  rw [write_good B.1 B.2.1 b0 b1, ← h]; rfl
theorem end_neg {r : Int} {l : List Int} (b0 : 2 ≤ b) (b1 : b ≤ 36) (hx : sgn a < 0) (w : WI (if sgn a < 0 then -(sgn a) else sgn a) b r l) (r0 : 0 ≤ r) (r1 : ¬ 0 < r) : PySem.Challenge.rw_widewhole_s09_write.post [.int a, .int b] (WData.list (ofPys (List.map PyData.int ([((l ++ [45]).reverse.length : Int), ((l ++ [45]).reverse.length : Int)] ++ (l ++ [45]).reverse)))) = true := by
  refine end_list hp b0 b1 ?_
  have e := w.eq
  rw [if_pos hx, show r = 0 by omega, dg_zero, List.nil_append] at e
  rw [List.reverse_append, e]
  unfold txt dg0
  rw [if_neg (show ¬ sgn a = 0 by omega), if_pos hx, if_neg (show ¬ -(sgn a) = 0 by omega)]
  rfl
theorem end_pos {r : Int} {l : List Int} (b0 : 2 ≤ b) (b1 : b ≤ 36) (hx : ¬ sgn a < 0) (w : WI (if sgn a < 0 then -(sgn a) else sgn a) b r l) (r0 : 0 ≤ r) (r1 : ¬ 0 < r) : PySem.Challenge.rw_widewhole_s09_write.post [.int a, .int b] (WData.list (ofPys (List.map PyData.int ([(l.reverse.length : Int), (l.reverse.length : Int)] ++ l.reverse)))) = true := by
  refine end_list hp b0 b1 ?_
  have e := w.eq
  rw [if_neg hx, show r = 0 by omega, dg_zero, List.nil_append] at e
  rw [e]
  unfold txt dg0
  rw [if_neg hx]
end
theorem len_45 {l : List Int} (h : l.length ≤ 129) : (l ++ [45]).length ≤ 1000 := by rw [List.length_append, List.length_singleton]; omega
end My
local macro_rules | `(tactic| kst_facts1) => `(tactic| exact PyProof.Rows.IntsAre.cons _ _ PyProof.Rows.IntsAre.nil)
local macro_rules | `(tactic| walk_at "call builtin:list.append") => `(tactic| (k_here; (with_reducible show wpAny _ _ (call (Value.builtin "list.append") [Value.ref _, Value.int 45 _]) _ _ _); k_dflt (refine' My.step_app ?rF ?rN ?rU ?rI ?rZ ?_; (case rF => k_asm); (case rN => k_asm); (case rU => k_upd); (case rI => (with_reducible assumption)); (case rZ => omega)); intro h' F' N' hI' hL'; (try dsimp only [List.nil_append, List.cons_append] at N')))
local macro_rules | `(tactic| walk_at "call builtin:list.reverse") => `(tactic| (k_here; (with_reducible show wpAny _ _ (call (Value.builtin "list.reverse") [Value.ref _]) _ _ _); k_dflt (refine' My.step_rev ?rF ?rN ?rU ?rI ?rZ ?_; (case rF => k_asm); (case rN => k_asm); (case rU => k_upd); (case rI => first | (with_reducible assumption) | exact IntsAre.append (by assumption) (.cons _ _ .nil)); (case rZ => first | omega | exact My.len_45 (by omega))); intro h' F' N' hI' hL'; (try dsimp only [List.nil_append, List.cons_append] at N')))
local macro_rules | `(tactic| walk_at "binaryOp Mod int int") => `(tactic| (k_here; (with_reducible refine' My.step_modQ ?k1 ?_); (case k1 => k_dflt omega); intro r' er' r0' r1'))
local macro_rules | `(tactic| walk_at "binaryOp FloorDiv int int") => `(tactic| (k_here; (with_reducible refine' My.step_divQ ?k1 ?k2 ?k3 ?_); (case k1 => k_dflt omega); (case k2 => k_dflt omega); (case k3 => k_dflt omega); intro q' eq' q0' q1' q2'))
local macro_rules | `(tactic| walk_at "eval Call") => `(tactic| (k_here; (with_reducible show wpAny _ _ (eval (Expr.Call (Expr.Name (Str.ofString "as_signed") _) _ _ _) _) _ _ _); k_dflt (refine Call_ ?_)))
local macro_rules | `(tactic| walk_at "eval Call") => `(tactic| (k_here; (with_reducible show wpAny _ _ (eval (Expr.Call (Expr.Name (Str.ofString "letter_of") _) _ _ _) _) _ _ _); k_dflt (refine Call_ ?_)))
set_option maxRecDepth 100000 in
set_option maxHeartbeats 2000000 in
theorem PySem.Challenge.cw_widewhole_s09_write_holds : PySem.Challenge.rw_widewhole_s09_write.Holds := by
  k_with "tree" => (first | exact My.sgn_a (by omega) | exact My.sgn_b (by omega) | exact My.chr_a (by omega) | exact My.chr_b (by omega))
  k_with "fact as_signed" => exact My.sgn_fact
  k_with "state" => (first | exact My.w_start (by omega) (by omega) (by omega) (by assumption) (by assumption) | exact My.w_turn (by assumption) (by omega) (by omega) (by omega) (by omega) (by assumption) (by assumption))
  k_with "exec While Compare cons nil" => k_while_given ["size", "base"] (fun size base _ rest letters => 0 ≤ rest ∧ rest ≤ size ∧ letters.length ≤ 129 ∧ My.WI size base rest letters) (fun _ _ _ rest _ => rest.toNat) "rest" "letters"
  k_with "call ref" => k_call_rec "as_signed" My.sgn (fun (_ : Int) => True) (fun (_ : Int) => 0)
  k_with "call ref" => k_call_rec "letter_of" My.chr (fun (_ : Int) => True) (fun (_ : Int) => 0)
  w_on; k_headS; (case hw => exact ⟨[.int 0, .int 0], by decide +kernel, by decide +kernel⟩); w_strict (k_goS0; (with_reducible rename OpenSpec.pre _ _ = true => osP); (have osB := My.bounds osP); (all_goals try k_fold); k_steps; (all_goals (try (w_end; sp_is; wrow_close))); (all_goals (try k_data)); all_goals first | sp_left | w_report)
  all_goals first
    | exact My.end_bad hpre (by omega)
    | exact My.end_neg hpre (by omega) (by omega) (by omega) (by assumption) (by omega) (by omega)
    | exact My.end_pos hpre (by omega) (by omega) (by omega) (by assumption) (by omega) (by omega)
#print axioms PySem.Challenge.cw_widewhole_s09_write_holds
