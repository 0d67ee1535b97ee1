import PyProof.Rows.All
import KE.OsGo
import KE.OsArgs
import KE.OsMore
import PySem.Challenge.RW_tokenpass_s01_tk_pack
set_option Elab.async false
set_option maxHeartbeats 4000000
set_option linter.unusedVariables false
namespace My
open Sv20
theorem sign_eq (n : Nat) : sign n = signs.getD (n % 64) 0 := rfl
theorem sign_mod (n : Nat) : sign (n % 64) = sign n := by
  show signs.getD (n % 64 % 64) 0 = signs.getD (n % 64) 0
  rw [Nat.mod_mod]
theorem sign_congr {a b : Nat} (h : a % 64 = b % 64) : sign a = sign b := by
  show signs.getD (a % 64) 0 = signs.getD (b % 64) 0
  rw [h]
/-- what is still to be written, by what is held -/
def rem (h b : Nat) (r : List Nat) : List Nat :=
  if b = 0 then packed r
  else if b = 2 then (packed (h :: r)).drop 1
  else if b = 4 then (packed (0 :: h :: r)).drop 2
  else if b = 6 then (packed (0 :: 0 :: h :: r)).drop 3
  else if b = 8 then packed (h :: r)
  else if b = 10 then (packed (h / 256 :: h % 256 :: r)).drop 1
  else (packed (0 :: h / 256 :: h % 256 :: r)).drop 2
theorem pk3 (a b c : Nat) (r : List Nat) : packed (a :: b :: c :: r) = [sign (a / 4), sign (a % 4 * 16 + b / 16), sign (b % 16 * 4 + c / 64), sign c] ++ packed r := by
  rw [packed]
theorem pk2 (a b : Nat) : packed [a, b] = [sign (a / 4), sign (a % 4 * 16 + b / 16), sign (b % 16 * 4)] := by rw [packed]
theorem pk1 (a : Nat) : packed [a] = [sign (a / 4), sign (a % 4 * 16)] := by rw [packed]
theorem pk0 : packed [] = [] := by rw [packed]
-- a byte is taken
theorem take0 (v : Nat) (r : List Nat) : rem 0 0 (v :: r) = rem v 8 r := rfl
theorem take2 {h v : Nat} (hh : h < 4) (hv : v < 256) (r : List Nat) : rem h 2 (v :: r) = rem (h * 256 + v) 10 r := by
  show (packed (h :: v :: r)).drop 1 = (packed ((h * 256 + v) / 256 :: (h * 256 + v) % 256 :: r)).drop 1
  have e1 : (h * 256 + v) / 256 = h := by omega
  have e2 : (h * 256 + v) % 256 = v := by omega
  rw [e1, e2]
theorem take4 {h v : Nat} (hh : h < 16) (hv : v < 256) (r : List Nat) : rem h 4 (v :: r) = rem (h * 256 + v) 12 r := by
  show (packed (0 :: h :: v :: r)).drop 2 = (packed (0 :: (h * 256 + v) / 256 :: (h * 256 + v) % 256 :: r)).drop 2
  have e1 : (h * 256 + v) / 256 = h := by omega
  have e2 : (h * 256 + v) % 256 = v := by omega
  rw [e1, e2]
-- a sign is written
theorem put6 {h : Nat} (hh : h < 64) (r : List Nat) : rem h 6 r = sign h :: rem 0 0 r := by
  show (packed (0 :: 0 :: h :: r)).drop 3 = sign h :: packed r
  rw [pk3]
  rfl
theorem put8 {h : Nat} (hh : h < 256) (r : List Nat) : rem h 8 r = sign (h / 4) :: rem (h % 4) 2 r := by
  show packed (h :: r) = sign (h / 4) :: (packed (h % 4 :: r)).drop 1
  have e : h % 4 % 4 = h % 4 := by omega
  match r with
  | [] => rw [pk1, pk1, e]; rfl
  | [b] => rw [pk2, pk2, e]; rfl
  | b :: c :: r => rw [pk3, pk3, e]; rfl
theorem put10 {h : Nat} (hh : h < 1024) (r : List Nat) : rem h 10 r = sign (h / 16) :: rem (h % 16) 4 r := by
  show (packed (h / 256 :: h % 256 :: r)).drop 1 = sign (h / 16) :: (packed (0 :: h % 16 :: r)).drop 2
  have e1 : h / 256 % 4 * 16 + h % 256 / 16 = h / 16 := by omega
  have e2 : h % 256 % 16 = h % 16 := by omega
  have e3 : h % 16 % 16 = h % 16 := by omega
  match r with
  | [] => rw [pk2, pk2, e1, e2, e3]; rfl
  | c :: r => rw [pk3, pk3, e1, e2, e3]; rfl
theorem put12 {h : Nat} (hh : h < 4096) (r : List Nat) : rem h 12 r = sign (h / 64) :: rem (h % 64) 6 r := by
  show (packed (0 :: h / 256 :: h % 256 :: r)).drop 2 = sign (h / 64) :: (packed (0 :: 0 :: h % 64 :: r)).drop 3
  have e1 : h / 256 % 16 * 4 + h % 256 / 64 = h / 64 := by omega
  rw [pk3, pk3, e1]
  have e2 : sign (h % 256) = sign (h % 64) := sign_congr (by omega)
  rw [e2]
  rfl
theorem end2 {h : Nat} (hh : h < 4) : rem h 2 [] = [sign (h * 16)] := by
  show (packed [h]).drop 1 = _
  rw [pk1]
  have e : h % 4 = h := by omega
  rw [e]
  rfl
theorem end4 {h : Nat} (hh : h < 16) : rem h 4 [] = [sign (h * 4)] := by
  show (packed [0, h]).drop 2 = _
  rw [pk2]
  have e : h % 16 = h := by omega
  rw [e]
  rfl
theorem end0 (h : Nat) : rem h 0 [] = [] := pk0

def sg (n : Int) : Int := (sign n.toNat : Int)
structure Told (pre out : List Int) (h b : Int) : Prop where
  eq : ∀ rest : List Nat, Sv20Neutral.ints (packed (Sv20Neutral.nats pre ++ rest)) = out ++ Sv20Neutral.ints (rem h.toNat b.toNat rest)
theorem told0 : Told [] [] 0 0 := ⟨fun _ => rfl⟩
theorem nats_snoc (pre : List Int) (v : Int) (rest : List Nat) : Sv20Neutral.nats (pre ++ [v]) ++ rest = Sv20Neutral.nats pre ++ (v.toNat :: rest) := by
  simp [Sv20Neutral.nats]
/-- a byte is taken in -/
theorem told_in {pre out : List Int} {h b v : Int} (T : Told pre out h b) (hb : b = 0 ∨ b = 2 ∨ b = 4) (h0 : 0 ≤ h) (h1 : b = 0 → h = 0) (h2 : b = 2 → h < 4) (h3 : b = 4 → h < 16) (v0 : 0 ≤ v) (v1 : v ≤ 255) : Told (pre ++ [v]) out (h * 256 + v) (b + 8) := by
  refine ⟨fun rest => ?_⟩
  rw [nats_snoc, T.eq]
  congr 2
  have ev : (h * 256 + v).toNat = h.toNat * 256 + v.toNat := by omega
  rw [ev]
  rcases hb with rfl | rfl | rfl
  · have e := h1 rfl
    subst e
    exact (take0 _ _).trans (by show rem v.toNat 8 rest = rem (0 * 256 + v.toNat) 8 rest; rw [Nat.zero_mul, Nat.zero_add])
  · exact take2 (by have := h2 rfl; omega) (by omega) rest
  · exact take4 (by have := h3 rfl; omega) (by omega) rest
theorem told_put {pre out : List Int} {h b b' h' q : Int} (T : Told pre out h b) (hb : b = 6 ∨ b = 8 ∨ b = 10 ∨ b = 12) (h0 : 0 ≤ h) (hlt : h < 2 ^ b.toNat) (eb : b' = b - 6) (e : h = 2 ^ b'.toNat * q + h') (r0 : 0 ≤ h') (r1 : h' < 2 ^ b'.toNat) : Told pre (out ++ [sg q]) h' b' := by
  refine ⟨fun rest => ?_⟩
  rw [T.eq]
  have key : rem h.toNat b.toNat rest = sign q.toNat :: rem h'.toNat b'.toNat rest := by
    subst eb
    rcases hb with rfl | rfl | rfl | rfl
    · have f1 : (2 : Int) ^ ((6 : Int) - 6).toNat = 1 := rfl
      have f2 : (2 : Int) ^ (6 : Int).toNat = 64 := rfl
      rw [f1] at e r1; rw [f2] at hlt
      have g1 : h' = 0 := by omega
      have g2 : q.toNat = h.toNat := by omega
      rw [g2, g1]
      exact put6 (by omega) rest
    · have f1 : (2 : Int) ^ ((8 : Int) - 6).toNat = 4 := rfl
      have f2 : (2 : Int) ^ (8 : Int).toNat = 256 := rfl
      rw [f1] at e r1; rw [f2] at hlt
      have g1 : h'.toNat = h.toNat % 4 := by omega
      have g2 : q.toNat = h.toNat / 4 := by omega
      rw [g2, g1]
      exact put8 (by omega) rest
    · have f1 : (2 : Int) ^ ((10 : Int) - 6).toNat = 16 := rfl
      have f2 : (2 : Int) ^ (10 : Int).toNat = 1024 := rfl
      rw [f1] at e r1; rw [f2] at hlt
      have g1 : h'.toNat = h.toNat % 16 := by omega
      have g2 : q.toNat = h.toNat / 16 := by omega
      rw [g2, g1]
      exact put10 (by omega) rest
    · have f1 : (2 : Int) ^ ((12 : Int) - 6).toNat = 64 := rfl
      have f2 : (2 : Int) ^ (12 : Int).toNat = 4096 := rfl
      rw [f1] at e r1; rw [f2] at hlt
      have g1 : h'.toNat = h.toNat % 64 := by omega
      have g2 : q.toNat = h.toNat / 64 := by omega
      rw [g2, g1]
      exact put12 (by omega) rest
  rw [key]
  show out ++ Sv20Neutral.ints (sign q.toNat :: _) = (out ++ [sg q]) ++ _
  rw [List.append_assoc]
  rfl
theorem size_len1 {n : Nat} (h : n ≤ 100000) : size (n : Int) = true := by
  unfold size within
  rw [Bool.and_eq_true, decide_eq_true_eq, decide_eq_true_eq]
  omega
theorem pack_neg {most : Int} {b : List Int} (h : most < 0) : [-2] = PySv20.tk_pack most b := by
  show _ = (does (.pack (Sv20Neutral.nats b) (b.length : Int) most)).v :: Sv20Neutral.ints (does (.pack (Sv20Neutral.nats b) (b.length : Int) most)).l
  have e : does (.pack (Sv20Neutral.nats b) (b.length : Int) most) = ok (-2) := by
    show (if (size (b.length : Int) && decide (0 ≤ most)) = false then _ else _) = _
    rw [if_pos (by rw [Bool.and_eq_false_iff]; right; exact decide_eq_false (by omega))]
  rw [e]
  rfl
theorem pack_is {most : Int} {b out : List Int} (h : 0 ≤ most) (hl : b.length ≤ 100000) (e : Sv20Neutral.ints (packed (Sv20Neutral.nats b)) = out) :
    PySv20.tk_pack most b = if most < (out.length : Int) then [-7] else (out.length : Int) :: out := by
  show (does (.pack (Sv20Neutral.nats b) (b.length : Int) most)).v :: Sv20Neutral.ints (does (.pack (Sv20Neutral.nats b) (b.length : Int) most)).l = _
  have e1 : does (.pack (Sv20Neutral.nats b) (b.length : Int) most) = fits most (packed (Sv20Neutral.nats b)) := by
    show (if (size (b.length : Int) && decide (0 ≤ most)) = false then _ else _) = _
    rw [if_neg (by rw [size_len1 hl, decide_eq_true h]; decide)]
  rw [e1]
  subst e
  have el : (Sv20Neutral.ints (packed (Sv20Neutral.nats b))).length = (packed (Sv20Neutral.nats b)).length := by simp [Sv20Neutral.ints]
  rw [el]
  unfold fits
  split <;> rfl
/-- behind the loop: nothing is held -/
theorem told_end0 {b out : List Int} {h : Int} (T : Told b out h 0) : Sv20Neutral.ints (packed (Sv20Neutral.nats b)) = out := by
  have e := T.eq []
  rw [List.append_nil] at e
  rw [e]
  show out ++ Sv20Neutral.ints (rem h.toNat 0 []) = out
  rw [end0]
  exact List.append_nil _
theorem told_end {pre out : List Int} {h b q : Int} (T : Told pre out h b) (h0 : 0 ≤ h) (hb : (b = 2 ∧ h < 4 ∧ q = h * 16) ∨ (b = 4 ∧ h < 16 ∧ q = h * 4)) : Sv20Neutral.ints (packed (Sv20Neutral.nats pre)) = out ++ [sg q] := by
  have e := T.eq []
  rw [List.append_nil] at e
  rw [e]
  rcases hb with ⟨rfl, hh, rfl⟩ | ⟨rfl, hh, rfl⟩
  · show out ++ Sv20Neutral.ints (rem h.toNat 2 []) = _
    rw [end2 (by omega)]
    have f : (h * 16).toNat = h.toNat * 16 := by omega
    unfold sg
    rw [f]
    rfl
  · show out ++ Sv20Neutral.ints (rem h.toNat 4 []) = _
    rw [end4 (by omega)]
    have f : (h * 4).toNat = h.toNat * 4 := by omega
    unfold sg
    rw [f]
    rfl
end My

namespace My
structure St (h b : Int) : Prop where
  d : (b = 0 ∧ h = 0) ∨ (b = 2 ∧ h < 4) ∨ (b = 4 ∧ h < 16)
structure B8 (l : List Int) : Prop where
  all : ∀ x ∈ l, 0 ≤ x ∧ x ≤ 255
theorem inB {l : List Int} {v : Int} (B : B8 l) (m : v ∈ l) : 0 ≤ v ∧ v ≤ 255 := B.all v m
theorem sg_tab : ∀ n < 64, (([65, 66, 67, 68, 69, 70, 71, 72, 73, 74, 75, 76, 77, 78, 79, 80, 81, 82, 83, 84, 85, 86, 87, 88, 89, 90, 97, 98, 99, 100, 101, 102, 103, 104, 105, 106, 107, 108, 109, 110, 111, 112, 113, 114, 115, 116, 117, 118, 119, 120, 121, 122, 48, 49, 50, 51, 52, 53, 54, 55, 56, 57, 45, 95] : List Int).getD n 0) = (Sv20.sign n : Int) := by decide +kernel
theorem sg_out {n : Int} (h0 : 0 ≤ n) (h1 : n < 64) : (([65, 66, 67, 68, 69, 70, 71, 72, 73, 74, 75, 76, 77, 78, 79, 80, 81, 82, 83, 84, 85, 86, 87, 88, 89, 90, 97, 98, 99, 100, 101, 102, 103, 104, 105, 106, 107, 108, 109, 110, 111, 112, 113, 114, 115, 116, 117, 118, 119, 120, 121, 122, 48, 49, 50, 51, 52, 53, 54, 55, 56, 57, 45, 95] : List Int).getD n.toNat 0) = sg n := sg_tab n.toNat (by omega)
theorem start1 : ([] : List Int).length ≤ 2 * ([] : List Int).length ∧ 6 * (([] : List Int).length : Int) + 0 = 8 * (([] : List Int).length : Int) ∧ (0 : Int) ≤ 0 ∧ St 0 0 ∧ Told [] [] 0 0 := ⟨Nat.le_refl _, rfl, by decide, ⟨Or.inl ⟨rfl, rfl⟩⟩, told0⟩
/-- the ways of a turn -/
theorem turn1 {pre out : List Int} {h b v q r b' X : Int} (T : Told pre out h b) (hL : out.length ≤ 2 * pre.length) (hl : 6 * (out.length : Int) + b = 8 * (pre.length : Int)) (hv : 0 ≤ v ∧ v ≤ 255) (h0 : 0 ≤ h)
    (hb : (b = 0 ∧ h = 0 ∧ b' = 2 ∧ q = (h * 256 + v) / 4 ∧ r = (h * 256 + v) % 4) ∨ (b = 2 ∧ h < 4 ∧ b' = 4 ∧ q = (h * 256 + v) / 16 ∧ r = (h * 256 + v) % 16)) (eX : X = sg q) :
    (out ++ [X]).length ≤ 2 * (pre ++ [v]).length ∧ 6 * ((out ++ [X]).length : Int) + b' = 8 * ((pre ++ [v]).length : Int) ∧ 0 ≤ r ∧ St r b' ∧ Told (pre ++ [v]) (out ++ [X]) r b' := by
  subst eX
  have v0 := hv.1
  have v1 := hv.2
  have T1 := told_in T (by omega) h0 (by omega) (by omega) (by omega) v0 v1
  refine ⟨by simp only [List.length_append, List.length_singleton]; omega, by simp only [List.length_append, List.length_singleton]; omega, by omega, ⟨by omega⟩, ?_⟩
  rcases hb with ⟨rfl, e, rfl, rfl, rfl⟩ | ⟨rfl, e, rfl, rfl, rfl⟩
  · refine told_put T1 (by omega) (by omega) ?_ (by omega) ?_ (by omega) ?_
    · show _ < (256 : Int); omega
    · show _ = (4 : Int) * _ + _; omega
    · show _ < (4 : Int); omega
  · refine told_put T1 (by omega) (by omega) ?_ (by omega) ?_ (by omega) ?_
    · show _ < (1024 : Int); omega
    · show _ = (16 : Int) * _ + _; omega
    · show _ < (16 : Int); omega
theorem turn2 {pre out : List Int} {h b v q q2 r2 b' X Y : Int} (T : Told pre out h b) (hL : out.length ≤ 2 * pre.length) (hl : 6 * (out.length : Int) + b = 8 * (pre.length : Int)) (hv : 0 ≤ v ∧ v ≤ 255) (h0 : 0 ≤ h)
    (hb : b = 4 ∧ h < 16 ∧ b' = 0 ∧ q = (h * 256 + v) / 64 ∧ q2 = (h * 256 + v) % 64 ∧ r2 = 0) (eX : X = sg q) (eY : Y = sg q2) :
    (out ++ [X] ++ [Y]).length ≤ 2 * (pre ++ [v]).length ∧ 6 * ((out ++ [X] ++ [Y]).length : Int) + b' = 8 * ((pre ++ [v]).length : Int) ∧ 0 ≤ r2 ∧ St r2 b' ∧ Told (pre ++ [v]) (out ++ [X] ++ [Y]) r2 b' := by
  subst eX eY
  have v0 := hv.1
  have v1 := hv.2
  have T1 := told_in T (by omega) h0 (by omega) (by omega) (by omega) v0 v1
  refine ⟨by simp only [List.length_append, List.length_singleton]; omega, by simp only [List.length_append, List.length_singleton]; omega, by omega, ⟨by omega⟩, ?_⟩
  obtain ⟨rfl, e, rfl, rfl, rfl, rfl⟩ := hb
  have T2 : Told (pre ++ [v]) (out ++ [sg ((h * 256 + v) / 64)]) ((h * 256 + v) % 64) 6 := by
    refine told_put T1 (by omega) (by omega) ?_ (by omega) ?_ (by omega) ?_
    · show _ < (4096 : Int); omega
    · show _ = (64 : Int) * _ + _; omega
    · show _ < (64 : Int); omega
  refine told_put T2 (by omega) (by omega) ?_ (by omega) ?_ (by omega) ?_
  · show _ < (64 : Int); omega
  · show _ = (1 : Int) * _ + _; omega
  · show _ < (1 : Int); omega
end My
namespace My
theorem end_a {most : Int} {ns out : List Int} {h b q X : Int} (T : Told ns out h b) (S : St h b) (h0 : 0 ≤ h) (hb : 0 < b) (hq : (6 - b = 4 ∧ q = h * 16) ∨ (6 - b = 2 ∧ q = h * 4)) (eX : X = sg q) (hm : 0 ≤ most) (hn : ns.length ≤ 100000) :
    PySv20.tk_pack most ns = if most < ((out.length + 1 : Nat) : Int) then [-7] else [((out.length + 1 : Nat) : Int)] ++ (out ++ [X]) := by
  have hd := S.d
  subst eX
  have e := told_end (q := q) T h0 (by omega)
  rw [pack_is hm hn e]
  have el : (out ++ [sg q]).length = out.length + 1 := by simp
  rw [el]
  rfl
theorem end_z {most : Int} {ns out : List Int} {h b : Int} (T : Told ns out h b) (S : St h b) (hb : ¬ 0 < b) (hm : 0 ≤ most) (hn : ns.length ≤ 100000) :
    PySv20.tk_pack most ns = if most < (out.length : Int) then [-7] else [(out.length : Int)] ++ out := by
  have hd := S.d
  obtain rfl : b = 0 := by omega
  rw [pack_is hm hn (told_end0 T)]
  rfl
theorem fin_list {l k : List Int} (h : l = k) : PySem.W.WData.list (PySem.W.ofPys (l.map PySem.PyData.int)) = PySem.W.WData.list (k.map PySem.W.WData.int) := by
  subst h
  rw [PySem.W.ofPys_ints]
theorem fin_py {z : Int} {k : List Int} (h : [z] = k) : PySem.W.ofPy (PySem.PyData.list [PySem.PyData.int z]) = PySem.W.WData.list (k.map PySem.W.WData.int) := by
  subst h
  simp [PySem.W.ofPy, PySem.W.ofPys]
end My
namespace My
open PySem PySem.W PySem.Calls PyProof.Rows
theorem and_low (k a d : Nat) (h : d < 2 ^ k) : (2 ^ k * a) &&& d = 0 := by
  have e1 : d &&& (2 ^ k - 1) = d % 2 ^ k := Nat.and_two_pow_sub_one_eq_mod d k
  have e2 : (2 ^ k * a) &&& (2 ^ k - 1) = (2 ^ k * a) % 2 ^ k := Nat.and_two_pow_sub_one_eq_mod (2 ^ k * a) k
  have e3 : d % 2 ^ k = d := Nat.mod_eq_of_lt h
  have e4 : (2 ^ k * a) % 2 ^ k = 0 := Nat.mul_mod_right _ _
  have f1 : d &&& (2 ^ k - 1) = d := e1.trans e3
  have f2 : (2 ^ k * a) &&& (d &&& (2 ^ k - 1)) = ((2 ^ k * a) &&& (2 ^ k - 1)) &&& d := by rw [Nat.and_comm d (2 ^ k - 1), Nat.and_assoc]
  rw [f1, e2, e4, Nat.zero_and] at f2
  exact f2
theorem or_low8 {v d : Int} (h0 : 0 ≤ v) (d0 : 0 ≤ d) (d1 : d < 256) : Builtin.bitOr (v * 256) d = v * 256 + d := by
  have e : (v * 256).toNat &&& d.toNat = 0 := by
    have q : (v * 256).toNat = 2 ^ 8 * v.toNat := by omega
    rw [q]
    exact and_low 8 _ _ (by omega)
  rw [PyProof.Rows.bitOr_and, PyProof.Rows.bitAnd_pp (by omega) d0, e]
  exact Int.sub_zero _
section
variable {prog : Program} {w : World} {A : Around} {E : Value → Shared → Prop} {s : Shared} {x y : Int} {t u : Tok} {Q : Value → Shared → Prop}
theorem step_shl8 (h0 : 0 ≤ x) (h1 : x < 65536) (h : Q (.int (x * 256) s.toks) { s with toks := s.toks + 1 }) : wpAny (model prog w) A (binaryOp .LShift (.int x t) (.int 8 u)) Q E s := by
  have e : (2 : Int) ^ (8 : Int).toNat = 256 := by first | decide | rfl
  refine PyProof.Rows.lshift_int_small (by decide) (by decide) (by omega) ?_
  rw [e]
  exact h
theorem step_or8 (h0 : 0 ≤ x) (d : 0 ≤ y ∧ y ≤ 255) (h : 0 ≤ y → y ≤ 255 → Q (.int (x * 256 + y) s.toks) { s with toks := s.toks + 1 }) : wpAny (model prog w) A (binaryOp .BitOr (.int (x * 256) t) (.int y u)) Q E s := by
  refine PyProof.Rows.or_int ?_
  rw [or_low8 h0 d.1 (by omega)]
  exact h d.1 d.2
theorem step_shr (hy : y = 0 ∨ y = 2 ∨ y = 4 ∨ y = 6) (h : ∀ q, (y = 0 ∧ q = x) ∨ (y = 2 ∧ q = x / 4) ∨ (y = 4 ∧ q = x / 16) ∨ (y = 6 ∧ q = x / 64) → Q (.int q s.toks) { s with toks := s.toks + 1 }) : wpAny (model prog w) A (binaryOp .RShift (.int x t) (.int y u)) Q E s := by
  refine PyProof.Rows.rshift_int (by omega) ?_
  refine h _ ?_
  rcases hy with rfl | rfl | rfl | rfl
  · left; refine ⟨rfl, ?_⟩; show Int.fdiv x 1 = x; rw [Int.fdiv_eq_ediv_of_nonneg x (by decide)]; omega
  · right; left; refine ⟨rfl, ?_⟩; exact Int.fdiv_eq_ediv_of_nonneg x (by decide)
  · right; right; left; refine ⟨rfl, ?_⟩; exact Int.fdiv_eq_ediv_of_nonneg x (by decide)
  · right; right; right; refine ⟨rfl, ?_⟩; exact Int.fdiv_eq_ediv_of_nonneg x (by decide)
theorem step_one (hy : y = 0 ∨ y = 2 ∨ y = 4 ∨ y = 6) (h : ∀ q, (y = 0 ∧ q = 1) ∨ (y = 2 ∧ q = 4) ∨ (y = 4 ∧ q = 16) ∨ (y = 6 ∧ q = 64) → Q (.int q s.toks) { s with toks := s.toks + 1 }) : wpAny (model prog w) A (binaryOp .LShift (.int 1 t) (.int y u)) Q E s := by
  refine PyProof.Rows.lshift_int_small (by omega) (by omega) (by decide) ?_
  refine h _ ?_
  rcases hy with rfl | rfl | rfl | rfl
  · left; exact ⟨rfl, rfl⟩
  · right; left; exact ⟨rfl, rfl⟩
  · right; right; left; exact ⟨rfl, rfl⟩
  · right; right; right; exact ⟨rfl, rfl⟩
theorem step_and (hy : y = 0 ∨ y = 3 ∨ y = 15 ∨ y = 63) (h : ∀ r, (y = 0 ∧ r = 0) ∨ (y = 3 ∧ r = x % 4) ∨ (y = 15 ∧ r = x % 16) ∨ (y = 63 ∧ r = x % 64) → Q (.int r s.toks) { s with toks := s.toks + 1 }) : wpAny (model prog w) A (binaryOp .BitAnd (.int x t) (.int y u)) Q E s := by
  refine PyProof.Rows.and_int ?_
  refine h _ ?_
  rcases hy with rfl | rfl | rfl | rfl
  · left
    refine ⟨rfl, ?_⟩
    have e : Builtin.bitAnd x 0 = x % 1 := kbt_mask x 0
    rw [e]; omega
  · right; left; exact ⟨rfl, kbt_mask x 2⟩
  · right; right; left; exact ⟨rfl, kbt_mask x 4⟩
  · right; right; right; exact ⟨rfl, kbt_mask x 6⟩
theorem step_shl_end (hy : (y = 4 ∧ x < 4) ∨ (y = 2 ∧ x < 16)) (h0 : 0 ≤ x) (h : ∀ q, (y = 4 ∧ q = x * 16) ∨ (y = 2 ∧ q = x * 4) → Q (.int q s.toks) { s with toks := s.toks + 1 }) : wpAny (model prog w) A (binaryOp .LShift (.int x t) (.int y u)) Q E s := by
  refine PyProof.Rows.lshift_int_small (by omega) (by omega) (by omega) ?_
  refine h _ ?_
  rcases hy with ⟨rfl, _⟩ | ⟨rfl, _⟩
  · left; exact ⟨rfl, rfl⟩
  · right; exact ⟨rfl, rfl⟩
end
end My
open PySem PySem.W PyProof.Rows
namespace My
theorem said : PySem.Challenge.rw_tokenpass_s01_tk_pack.wellSaid = true := by decide +kernel
theorem bounds {k : Int} {ns : List Int} (h : PySem.Challenge.rw_tokenpass_s01_tk_pack.pre [WData.int k, ofPy (PyData.list (ns.map PyData.int))] = true) : ns.length ≤ 100000 ∧ B8 ns := by
  obtain ⟨a, w, q, e⟩ := os_pre said h
  obtain ⟨m, b, u⟩ := a
  have e1 := os_j_int (List.cons.inj e).1
  have e2 := os_j_ints (List.cons.inj (List.cons.inj e).2).1
  subst e1 e2
  have w' : (Codec.inInt (Int.negSucc 2147483647) (Int.ofNat 2147483647) k && ((Codec.inNat 0 100000 ns.length && ns.all (Codec.inInt (Int.ofNat 0) (Int.ofNat 255))) && true)) = true := w
  rw [Bool.and_eq_true, Bool.and_eq_true, Bool.and_eq_true] at w'
  obtain ⟨w1, ⟨w2, w3⟩, _⟩ := w'
  unfold Codec.inNat at w2
  rw [Bool.and_eq_true, decide_eq_true_eq, decide_eq_true_eq] at w2
  refine ⟨w2.2, ⟨fun x hx => ?_⟩⟩
  have h3 := List.all_eq_true.mp w3 x hx
  unfold Codec.inInt at h3
  rw [Bool.and_eq_true, decide_eq_true_eq, decide_eq_true_eq] at h3
  exact h3
end My
local macro_rules | `(tactic| walk_at "subscriptTail Name Name str int") => `(tactic| (k_here; (with_reducible show wpAny _ _ (subscriptTail _ _ (Value.str _ _) (Value.int _ _)) _ _ _); k_dflt (refine KXi.item (by kxi_len) (by omega) (by omega) (by decide) ?_); intro kxiE))
local macro_rules | `(tactic| walk_at "binaryOp LShift int int") => `(tactic| (k_here; (with_reducible show wpAny _ _ (binaryOp Operator.LShift (Value.int _ _) (Value.int (6 - _) _)) _ _ _); (have hSt := My.St.d (by assumption)); k_dflt (refine' My.step_shl_end ?k1 ?k2 ?_; (case k1 => omega); (case k2 => omega)); intro q' hq'))
local macro_rules | `(tactic| walk_at "binaryOp LShift int int") => `(tactic| (k_here; (with_reducible show wpAny _ _ (binaryOp Operator.LShift (Value.int 1 _) (Value.int _ _)) _ _ _); k_dflt (refine' My.step_one ?k1 ?_; (case k1 => omega)); intro p' hp'))
local macro_rules | `(tactic| walk_at "binaryOp LShift int int") => `(tactic| (k_here; (with_reducible show wpAny _ _ (binaryOp Operator.LShift (Value.int _ _) (Value.int 8 _)) _ _ _); (rcases (My.St.d (by assumption)) with ⟨he1, he2⟩ | ⟨he1, he2⟩ | ⟨he1, he2⟩) <;> subst he1 <;> k_dflt (refine' My.step_shl8 ?k1 ?k2 ?_; (case k1 => omega); (case k2 => omega))))
local macro_rules | `(tactic| walk_at "binaryOp BitOr int int") => `(tactic| (k_here; (with_reducible show wpAny _ _ (binaryOp Operator.BitOr (Value.int (_ * 256) _) (Value.int _ _)) _ _ _); k_dflt (refine' My.step_or8 ?k1 ?k2 ?_; (case k1 => omega); (case k2 => exact My.inB (by assumption) (by assumption))); intro hv0 hv1))
local macro_rules | `(tactic| walk_at "binaryOp RShift int int") => `(tactic| (k_here; k_dflt (refine' My.step_shr ?k1 ?_; (case k1 => omega)); intro q' hq'))
local macro_rules | `(tactic| walk_at "binaryOp BitAnd int int") => `(tactic| (k_here; k_dflt (refine' My.step_and ?k1 ?_; (case k1 => omega)); intro r' hr'))
example : List Int → List Int → Int → Int → Prop := fun pre signs held bits => signs.length ≤ 2 * pre.length ∧ 6 * (signs.length : Int) + bits = 8 * (pre.length : Int) ∧ 0 ≤ held ∧ My.St held bits ∧ My.Told pre signs held bits
set_option maxRecDepth 100000 in
set_option maxHeartbeats 8000000 in
theorem PySem.Challenge.cw_tokenpass_s01_tk_pack_holds : PySem.Challenge.rw_tokenpass_s01_tk_pack.Holds := by
  k_with "state" => k_dflt (first
    | exact My.start1
    | (have h := My.start1; exact h)
    | exact My.turn1 (by assumption) (by omega) (by omega) ⟨by assumption, by assumption⟩ (by omega) (by omega) (My.sg_out (by omega) (by omega))
    | exact My.turn2 (by assumption) (by omega) (by omega) ⟨by assumption, by assumption⟩ (by omega) (by omega) (My.sg_out (by omega) (by omega)) (My.sg_out (by omega) (by omega)))
  k_with "pyIter ref" => k_state (fun pre signs held bits => signs.length ≤ 2 * pre.length ∧ 6 * (signs.length : Int) + bits = 8 * (pre.length : Int) ∧ 0 ≤ held ∧ My.St held bits ∧ My.Told pre signs held bits) "signs" "held" "bits"
  open_ks0 with [.int 0, .list []]
  obtain ⟨osLen, osB⟩ := My.bounds (by assumption)
  ks_steps
  all_goals (
    os_open My.said with a w q e
    obtain ⟨m, bb, u⟩ := a
    have e1 := os_j_int (List.cons.inj e).1
    have e2 := os_j_ints (List.cons.inj (List.cons.inj e).2).1
    subst e1 e2
    show _ = WData.list (List.map WData.int (PySv20.tk_pack _ _)))
  all_goals first
    | exact My.fin_py (My.pack_neg (by omega))
    | (refine My.fin_py ?_; rw [My.end_a (by assumption) (by assumption) (by omega) (by omega) (by assumption) (My.sg_out (by omega) (by omega)) (by omega) (by omega), if_pos (by omega)])
    | (refine My.fin_list ?_; rw [My.end_a (by assumption) (by assumption) (by omega) (by omega) (by assumption) (My.sg_out (by omega) (by omega)) (by omega) (by omega), if_neg (by omega)])
    | (refine My.fin_py ?_; rw [My.end_z (by assumption) (by assumption) (by omega) (by omega) (by omega), if_pos (by omega)])
    | (refine My.fin_list ?_; rw [My.end_z (by assumption) (by assumption) (by omega) (by omega) (by omega), if_neg (by omega)])
#print axioms PySem.Challenge.cw_tokenpass_s01_tk_pack_holds
