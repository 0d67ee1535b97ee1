import PyProof.Rows.All
import KE.OsGo
import KE.OsArgs
import KE.OsMore
import PySem.Challenge.RW_tokenpass_s02_tk_unpack
set_option Elab.async false
set_option maxHeartbeats 4000000
set_option linter.unusedVariables false
namespace My
open Sv20
/-- six_of, as the program reckons it -/
def sx (c : Int) : Int := if 65 ≤ c ∧ c ≤ 90 then c - 65 else if 97 ≤ c ∧ c ≤ 122 then c - 97 + 26 else if 48 ≤ c ∧ c ≤ 57 then c - 48 + 52 else if c = 45 then 62 else if c = 95 then 63 else -1
theorem six_tab : ∀ c < 256, six c = if sx (c : Int) < 0 then none else some (sx (c : Int)).toNat := by decide +kernel
theorem six_sx {v : Int} (h0 : 0 ≤ v) (h1 : v ≤ 255) : six v.toNat = if sx v < 0 then none else some (sx v).toNat := by
  have h := six_tab v.toNat (by omega)
  have e : (v.toNat : Int) = v := by omega
  rw [e] at h
  exact h
theorem sx_lt (v : Int) : sx v < 64 := by
  unfold sx
  repeat' split
  all_goals omega
theorem sx_ge (v : Int) : -1 ≤ sx v := by
  unfold sx
  repeat' split
  all_goals omega
def remS (h b : Nat) (r : List Nat) : Option (List Nat) :=
  if b = 0 then sixes r
  else if b = 6 then sixes (h :: r)
  else if b = 4 then (sixes (0 :: h :: r)).map (List.drop 1)
  else (sixes (0 :: 0 :: h :: r)).map (List.drop 2)
theorem s4 (a b c d : Nat) (r : List Nat) : sixes (a :: b :: c :: d :: r) = (sixes r).map fun l => [a * 4 + b / 16, b % 16 * 16 + c / 4, c % 4 * 64 + d] ++ l := by rw [sixes]
theorem s3 (a b c : Nat) : sixes [a, b, c] = if c % 4 = 0 then some [a * 4 + b / 16, b % 16 * 16 + c / 4] else none := by rw [sixes]
theorem s2 (a b : Nat) : sixes [a, b] = if b % 16 = 0 then some [a * 4 + b / 16] else none := by rw [sixes]
theorem s1 (a : Nat) : sixes [a] = none := by rw [sixes]
theorem s0 : sixes [] = some [] := by rw [sixes]
theorem in0 (s : Nat) (l : List Nat) : remS 0 0 (s :: l) = remS s 6 l := rfl
theorem in6 (h s : Nat) (l : List Nat) : remS h 6 (s :: l) = (remS (s % 16) 4 l).map ((h * 4 + s / 16) :: ·) := by
  show sixes (h :: s :: l) = ((sixes (0 :: s % 16 :: l)).map (List.drop 1)).map ((h * 4 + s / 16) :: ·)
  have e : s % 16 % 16 = s % 16 := by omega
  match l with
  | [] =>
    rw [s2, s2, e]
    split <;> rfl
  | [c] =>
    rw [s3, s3, e]
    split <;> rfl
  | c :: d :: r =>
    rw [s4, s4, e]
    cases sixes r <;> rfl
theorem in4 (h s : Nat) (hh : h < 16) (l : List Nat) : remS h 4 (s :: l) = (remS (s % 4) 2 l).map ((h * 16 + s / 4) :: ·) := by
  show (sixes (0 :: h :: s :: l)).map (List.drop 1) = ((sixes (0 :: 0 :: s % 4 :: l)).map (List.drop 2)).map ((h * 16 + s / 4) :: ·)
  have e : s % 4 % 4 = s % 4 := by omega
  have e2 : h % 16 = h := by omega
  match l with
  | [] =>
    rw [s3, s3, e, e2]
    split <;> rfl
  | d :: r =>
    rw [s4, s4, e, e2]
    cases sixes r <;> rfl
theorem in2 (h s : Nat) (hh : h < 4) (l : List Nat) : remS h 2 (s :: l) = (remS 0 0 l).map ((h * 64 + s) :: ·) := by
  show (sixes (0 :: 0 :: h :: s :: l)).map (List.drop 2) = (sixes l).map ((h * 64 + s) :: ·)
  have e2 : h % 4 = h := by omega
  rw [s4, e2]
  cases sixes l <;> rfl
structure Read (pre data : List Int) (h b : Int) : Prop where
  eq : ∀ rest : List Nat, (unpacked (Sv20Neutral.nats pre ++ rest)).map Sv20Neutral.ints = ((rest.mapM six).bind (remS h.toNat b.toNat)).map fun l => data ++ Sv20Neutral.ints l
theorem mapM_cons_six (v : Nat) (r : List Nat) : (v :: r).mapM six = (six v).bind fun s => (r.mapM six).map fun l => s :: l := by
  rw [List.mapM_cons]
  cases six v with
  | none => rfl
  | some s => cases r.mapM six <;> rfl
theorem read0 : Read [] [] 0 0 := by
  refine ⟨fun rest => ?_⟩
  show (((rest.mapM six).bind sixes)).map _ = ((rest.mapM six).bind sixes).map _
  congr 1
theorem nats_snoc2 (pre : List Int) (v : Int) (rest : List Nat) : Sv20Neutral.nats (pre ++ [v]) ++ rest = Sv20Neutral.nats pre ++ (v.toNat :: rest) := by
  simp [Sv20Neutral.nats]
theorem read_step {pre data : List Int} {h b v : Int} (T : Read pre data h b) (v0 : 0 ≤ v) (v1 : v ≤ 255) (hs : 0 ≤ sx v) (rest : List Nat) :
    (unpacked (Sv20Neutral.nats (pre ++ [v]) ++ rest)).map Sv20Neutral.ints = ((rest.mapM six).bind fun l => remS h.toNat b.toNat ((sx v).toNat :: l)).map fun l => data ++ Sv20Neutral.ints l := by
  rw [nats_snoc2, T.eq, mapM_cons_six, six_sx v0 v1, if_neg (by omega)]
  cases rest.mapM six <;> rfl
/-- no byte comes of it -/
theorem read_hold {pre data : List Int} {v : Int} (T : Read pre data 0 0) (v0 : 0 ≤ v) (v1 : v ≤ 255) (hs : 0 ≤ sx v) : Read (pre ++ [v]) data (sx v) 6 := by
  refine ⟨fun rest => ?_⟩
  rw [read_step T v0 v1 hs]
  rfl
theorem bind_map_cons (o : Option (List Nat)) (f g : List Nat → Option (List Nat)) (x : Nat) (data : List Int) (e : ∀ l, f l = (g l).map (x :: ·)) :
    (o.bind f).map (fun l => data ++ Sv20Neutral.ints l) = (o.bind g).map (fun l => (data ++ [(x : Int)]) ++ Sv20Neutral.ints l) := by
  cases o with
  | none => rfl
  | some l =>
    show (f l).map _ = (g l).map _
    rw [e l]
    cases g l with
    | none => rfl
    | some k =>
      show some (data ++ Sv20Neutral.ints (x :: k)) = some ((data ++ [(x : Int)]) ++ Sv20Neutral.ints k)
      rw [List.append_assoc]
      rfl
/-- a byte comes of it: x = (64 h + s) / 2^b', h' the rest -/
theorem read_put {pre data : List Int} {h b v x h' b' : Int} (T : Read pre data h b) (v0 : 0 ≤ v) (v1 : v ≤ 255) (hs : 0 ≤ sx v) (h0 : 0 ≤ h)
    (hb : (b = 6 ∧ h < 64 ∧ b' = 4 ∧ h' = (h * 64 + sx v) % 16 ∧ x = (h * 64 + sx v) / 16) ∨ (b = 4 ∧ h < 16 ∧ b' = 2 ∧ h' = (h * 64 + sx v) % 4 ∧ x = (h * 64 + sx v) / 4) ∨ (b = 2 ∧ h < 4 ∧ b' = 0 ∧ h' = 0 ∧ x = h * 64 + sx v)) :
    Read (pre ++ [v]) (data ++ [x]) h' b' := by
  have hl := sx_lt v
  refine ⟨fun rest => ?_⟩
  rw [read_step T v0 v1 hs]
  have ex : x = (x.toNat : Int) := by omega
  rw [ex]
  refine bind_map_cons _ _ _ _ _ fun l => ?_
  rcases hb with ⟨rfl, hh, rfl, e1, e2⟩ | ⟨rfl, hh, rfl, e1, e2⟩ | ⟨rfl, hh, rfl, e1, e2⟩
  · have f1 : h'.toNat = (sx v).toNat % 16 := by omega
    have f2 : x.toNat = h.toNat * 4 + (sx v).toNat / 16 := by omega
    rw [f1, f2]
    exact in6 _ _ _
  · have f1 : h'.toNat = (sx v).toNat % 4 := by omega
    have f2 : x.toNat = h.toNat * 16 + (sx v).toNat / 4 := by omega
    rw [f1, f2]
    exact in4 _ _ (by omega) _
  · have f1 : h'.toNat = 0 := by omega
    have f2 : x.toNat = h.toNat * 64 + (sx v).toNat := by omega
    rw [f1, f2]
    exact in2 _ _ (by omega) _
/-- a sign that is none -/
theorem read_no {all pre post : List Int} {v : Int} (e : all = pre ++ v :: post) (v0 : 0 ≤ v) (v1 : v ≤ 255) (hs : sx v < 0) : unpacked (Sv20Neutral.nats all) = none := by
  subst e
  have h : six v.toNat = none := by rw [six_sx v0 v1, if_pos hs]
  have e2 : Sv20Neutral.nats (pre ++ v :: post) = Sv20Neutral.nats pre ++ (v.toNat :: Sv20Neutral.nats post) := by simp [Sv20Neutral.nats]
  rw [e2]
  unfold unpacked
  have e3 : (Sv20Neutral.nats pre ++ (v.toNat :: Sv20Neutral.nats post)).mapM six = none := by
    rw [List.mapM_append, mapM_cons_six, h]
    cases (Sv20Neutral.nats pre).mapM six <;> rfl
  rw [e3]
  rfl
theorem read_end {all data : List Int} {h b : Int} (T : Read all data h b) (hb : b = 0 ∨ b = 2 ∨ b = 4) (h0 : 0 ≤ h) (h1 : b = 0 → h = 0) (h2 : b = 2 → h < 4) (h3 : b = 4 → h < 16) :
    (unpacked (Sv20Neutral.nats all)).map Sv20Neutral.ints = if h = 0 then some data else none := by
  have e := T.eq []
  rw [List.append_nil] at e
  rw [e]
  show ((remS h.toNat b.toNat []).map fun l => data ++ Sv20Neutral.ints l) = _
  have key : remS h.toNat b.toNat [] = if h = 0 then some [] else none := by
    rcases hb with rfl | rfl | rfl
    · have e := h1 rfl
      subst e
      exact s0
    · have e := h2 rfl
      show (sixes [0, 0, h.toNat]).map (List.drop 2) = _
      rw [s3]
      by_cases hz : h = 0
      · subst hz; rfl
      · rw [if_neg hz, if_neg (by omega)]; rfl
    · have e := h3 rfl
      show (sixes [0, h.toNat]).map (List.drop 1) = _
      rw [s2]
      by_cases hz : h = 0
      · subst hz; rfl
      · rw [if_neg hz, if_neg (by omega)]; rfl
  rw [key]
  by_cases hz : h = 0
  · rw [if_pos hz, if_pos hz]
    show some (data ++ []) = some data
    rw [List.append_nil]
  · rw [if_neg hz, if_neg hz]; rfl
/-- one sign behind whole fours is nothing's -/
theorem sixes_one : ∀ (l : List Nat), l.length % 4 = 1 → sixes l = none
  | [], h => by simp at h
  | [a], _ => s1 a
  | [a, b], h => by simp at h
  | [a, b, c], h => by simp at h
  | a :: b :: c :: d :: r, h => by
    rw [s4, sixes_one r (by simp only [List.length_cons] at h; omega)]
    rfl
theorem mapM_len : ∀ (l k : List Nat), l.mapM six = some k → k.length = l.length
  | [], k, h => by cases h; rfl
  | v :: r, k, h => by
    rw [mapM_cons_six] at h
    cases hv : six v with
    | none => rw [hv] at h; cases h
    | some s =>
      rw [hv] at h
      cases hr : r.mapM six with
      | none => rw [hr] at h; cases h
      | some l' =>
        rw [hr] at h
        cases h
        rw [List.length_cons, List.length_cons, mapM_len r l' hr]
theorem read_one {all : List Int} (h : all.length % 4 = 1) : unpacked (Sv20Neutral.nats all) = none := by
  unfold unpacked
  cases hm : (Sv20Neutral.nats all).mapM six with
  | none => rfl
  | some k =>
    have e := mapM_len _ _ hm
    have e2 : (Sv20Neutral.nats all).length = all.length := by simp [Sv20Neutral.nats]
    exact sixes_one k (by omega)
theorem size_len {n : Nat} (h : n ≤ 100000) : size (n : Int) = true := by
  unfold size within
  rw [Bool.and_eq_true, decide_eq_true_eq, decide_eq_true_eq]
  omega
theorem unpack_neg {most : Int} {t : List Int} (h : most < 0) : [-2] = PySv20.tk_unpack most t := by
  show _ = (does (.unpack (Sv20Neutral.nats t) (t.length : Int) most)).v :: Sv20Neutral.ints (does (.unpack (Sv20Neutral.nats t) (t.length : Int) most)).l
  have e : does (.unpack (Sv20Neutral.nats t) (t.length : Int) most) = ok (-2) := by
    show (if (size (t.length : Int) && decide (0 ≤ most)) = false then _ else _) = _
    rw [if_pos (by rw [Bool.and_eq_false_iff]; right; exact decide_eq_false (by omega))]
  rw [e]
  rfl
theorem unpack_does {most : Int} {t : List Int} (h : 0 ≤ most) (hl : t.length ≤ 100000) : does (.unpack (Sv20Neutral.nats t) (t.length : Int) most) = match unpacked (Sv20Neutral.nats t) with | none => ok (-3) | some b => fits most b := by
  show (if (size (t.length : Int) && decide (0 ≤ most)) = false then _ else _) = _
  rw [if_neg (by rw [size_len hl, decide_eq_true h]; decide)]
  cases unpacked (Sv20Neutral.nats t) <;> rfl
theorem unpack_none {most : Int} {t : List Int} (h : 0 ≤ most) (hl : t.length ≤ 100000) (e : unpacked (Sv20Neutral.nats t) = none) : [-3] = PySv20.tk_unpack most t := by
  show _ = (does (.unpack (Sv20Neutral.nats t) (t.length : Int) most)).v :: Sv20Neutral.ints (does (.unpack (Sv20Neutral.nats t) (t.length : Int) most)).l
  rw [unpack_does h hl, e]
  rfl
theorem unpack_some {most : Int} {t data : List Int} (h : 0 ≤ most) (hl : t.length ≤ 100000) (e : (unpacked (Sv20Neutral.nats t)).map Sv20Neutral.ints = some data) :
    PySv20.tk_unpack most t = if most < (data.length : Int) then [-7] else (data.length : Int) :: data := by
  show (does (.unpack (Sv20Neutral.nats t) (t.length : Int) most)).v :: Sv20Neutral.ints (does (.unpack (Sv20Neutral.nats t) (t.length : Int) most)).l = _
  rw [unpack_does h hl]
  cases hu : unpacked (Sv20Neutral.nats t) with
  | none => rw [hu] at e; cases e
  | some b =>
    rw [hu] at e
    have e' : Sv20Neutral.ints b = data := Option.some.inj e
    subst e'
    have el : (Sv20Neutral.ints b).length = b.length := by simp [Sv20Neutral.ints]
    rw [el]
    show (fits most b).v :: Sv20Neutral.ints (fits most b).l = _
    unfold fits
    split <;> rfl
end My

namespace My
structure St (h b : Int) : Prop where
  d : (b = 0 ∧ h = 0) ∨ (b = 6 ∧ h < 64) ∨ (b = 4 ∧ h < 16) ∨ (b = 2 ∧ h < 4)
structure B8 (l : List Int) : Prop where
  all : ∀ x ∈ l, 0 ≤ x ∧ x ≤ 255
theorem inB {l : List Int} {v : Int} (B : B8 l) (m : v ∈ l) : 0 ≤ v ∧ v ≤ 255 := B.all v m
theorem sx_fact (v : Int) : -1 ≤ sx v ∧ sx v < 64 := ⟨sx_ge v, sx_lt v⟩
theorem start2 : ([] : List Int).length ≤ ([] : List Int).length ∧ 8 * (([] : List Int).length : Int) + 0 = 6 * (([] : List Int).length : Int) ∧ (0 : Int) ≤ 0 ∧ St 0 0 ∧ Read [] [] 0 0 := ⟨Nat.le_refl _, rfl, by decide, ⟨Or.inl ⟨rfl, rfl⟩⟩, read0⟩
theorem hold2 {pre data : List Int} {h b v b' h' : Int} (T : Read pre data h b) (S : St h b) (hL : data.length ≤ pre.length) (hl : 8 * (data.length : Int) + b = 6 * (pre.length : Int)) (hv : 0 ≤ v ∧ v ≤ 255) (hs : 0 ≤ sx v) (hb : b < 2) (eb : b' = b + 6) (eh : h' = h * 64 + sx v) :
    data.length ≤ (pre ++ [v]).length ∧ 8 * (data.length : Int) + b' = 6 * ((pre ++ [v]).length : Int) ∧ 0 ≤ h' ∧ St h' b' ∧ Read (pre ++ [v]) data h' b' := by
  have hd := S.d
  have h64 := sx_lt v
  obtain ⟨rfl, rfl⟩ : b = 0 ∧ h = 0 := by omega
  obtain rfl : b' = 6 := by omega
  obtain rfl : h' = sx v := by omega
  refine ⟨by simp only [List.length_append, List.length_singleton]; omega, by simp only [List.length_append, List.length_singleton]; omega, hs, ⟨by omega⟩, read_hold T hv.1 hv.2 hs⟩
theorem put2 {pre data : List Int} {h b v b' h' x : Int} (T : Read pre data h b) (S : St h b) (hL : data.length ≤ pre.length) (hl : 8 * (data.length : Int) + b = 6 * (pre.length : Int)) (hv : 0 ≤ v ∧ v ≤ 255) (h0 : 0 ≤ h) (hs : 0 ≤ sx v)
    (hb : (b' = 4 ∧ h' = (h * 64 + sx v) % 16 ∧ x = (h * 64 + sx v) / 16) ∨ (b' = 2 ∧ h' = (h * 64 + sx v) % 4 ∧ x = (h * 64 + sx v) / 4) ∨ (b' = 0 ∧ h' = 0 ∧ x = h * 64 + sx v)) (eb : b' = b + 6 - 8) :
    (data ++ [x]).length ≤ (pre ++ [v]).length ∧ 8 * ((data ++ [x]).length : Int) + b' = 6 * ((pre ++ [v]).length : Int) ∧ 0 ≤ h' ∧ St h' b' ∧ Read (pre ++ [v]) (data ++ [x]) h' b' := by
  have hd := S.d
  have h64 := sx_lt v
  refine ⟨by simp only [List.length_append, List.length_singleton]; omega, by simp only [List.length_append, List.length_singleton]; omega, by omega, ⟨by omega⟩, read_put T hv.1 hv.2 hs h0 (by omega)⟩
theorem hold0 {pre data : List Int} {h v b' h' : Int} (T : Read pre data h 0) (hL : data.length ≤ pre.length) (hl : 8 * (data.length : Int) + 0 = 6 * (pre.length : Int)) (hv : 0 ≤ v ∧ v ≤ 255) (hs : 0 ≤ sx v) (hz : h = 0) (eb : b' = 6) (eh : h' = h * 64 + sx v) :
    data.length ≤ (pre ++ [v]).length ∧ 8 * (data.length : Int) + b' = 6 * ((pre ++ [v]).length : Int) ∧ 0 ≤ h' ∧ St h' b' ∧ Read (pre ++ [v]) data h' b' :=
  hold2 T ⟨Or.inl ⟨rfl, hz⟩⟩ hL hl hv hs (by decide) eb eh
theorem put6 {pre data : List Int} {h v b' h' x : Int} (T : Read pre data h 6) (hL : data.length ≤ pre.length) (hl : 8 * (data.length : Int) + 6 = 6 * (pre.length : Int)) (hv : 0 ≤ v ∧ v ≤ 255) (h0 : 0 ≤ h) (h1 : h < 64) (hs : 0 ≤ sx v) (eb : b' = 4) (eh : h' = (h * 64 + sx v) % 16) (ex : x = (h * 64 + sx v) / 16) :
    (data ++ [x]).length ≤ (pre ++ [v]).length ∧ 8 * ((data ++ [x]).length : Int) + b' = 6 * ((pre ++ [v]).length : Int) ∧ 0 ≤ h' ∧ St h' b' ∧ Read (pre ++ [v]) (data ++ [x]) h' b' :=
  put2 T ⟨Or.inr (Or.inl ⟨rfl, h1⟩)⟩ hL hl hv h0 hs (Or.inl ⟨eb, eh, ex⟩) eb
theorem put4 {pre data : List Int} {h v b' h' x : Int} (T : Read pre data h 4) (hL : data.length ≤ pre.length) (hl : 8 * (data.length : Int) + 4 = 6 * (pre.length : Int)) (hv : 0 ≤ v ∧ v ≤ 255) (h0 : 0 ≤ h) (h1 : h < 16) (hs : 0 ≤ sx v) (eb : b' = 2) (eh : h' = (h * 64 + sx v) % 4) (ex : x = (h * 64 + sx v) / 4) :
    (data ++ [x]).length ≤ (pre ++ [v]).length ∧ 8 * ((data ++ [x]).length : Int) + b' = 6 * ((pre ++ [v]).length : Int) ∧ 0 ≤ h' ∧ St h' b' ∧ Read (pre ++ [v]) (data ++ [x]) h' b' :=
  put2 T ⟨Or.inr (Or.inr (Or.inl ⟨rfl, h1⟩))⟩ hL hl hv h0 hs (Or.inr (Or.inl ⟨eb, eh, ex⟩)) eb
theorem put0 {pre data : List Int} {h v b' h' x : Int} (T : Read pre data h 2) (hL : data.length ≤ pre.length) (hl : 8 * (data.length : Int) + 2 = 6 * (pre.length : Int)) (hv : 0 ≤ v ∧ v ≤ 255) (h0 : 0 ≤ h) (h1 : h < 4) (hs : 0 ≤ sx v) (eb : b' = 0) (eh : h' = 0) (ex : x = h * 64 + sx v) :
    (data ++ [x]).length ≤ (pre ++ [v]).length ∧ 8 * ((data ++ [x]).length : Int) + b' = 6 * ((pre ++ [v]).length : Int) ∧ 0 ≤ h' ∧ St h' b' ∧ Read (pre ++ [v]) (data ++ [x]) h' b' :=
  put2 T ⟨Or.inr (Or.inr (Or.inr ⟨rfl, h1⟩))⟩ hL hl hv h0 hs (Or.inr (Or.inr ⟨eb, eh, ex⟩)) eb
/-- what the call hands back -/
theorem out_end {most : Int} {t data : List Int} {h b : Int} (T : Read t data h b) (S : St h b) (h0 : 0 ≤ h) (hl : 8 * (data.length : Int) + b = 6 * (t.length : Int)) (hn : ¬ t.length % 4 = 1) :
    (Sv20.unpacked (Sv20Neutral.nats t)).map Sv20Neutral.ints = if h = 0 then some data else none := by
  have hd := S.d
  exact read_end T (by omega) h0 (by omega) (by omega) (by omega)
theorem out_zero {t data : List Int} {h b : Int} (T : Read t data h b) (S : St h b) (h0 : 0 ≤ h) (hl : 8 * (data.length : Int) + b = 6 * (t.length : Int)) (hn : ¬ t.length % 4 = 1) (hz : h = 0) :
    (Sv20.unpacked (Sv20Neutral.nats t)).map Sv20Neutral.ints = some data := by
  rw [out_end (most := 0) T S h0 hl hn, if_pos hz]
theorem out_left {t data : List Int} {h b : Int} (T : Read t data h b) (S : St h b) (h0 : 0 ≤ h) (hl : 8 * (data.length : Int) + b = 6 * (t.length : Int)) (hn : ¬ t.length % 4 = 1) (hz : ¬ h = 0) :
    Sv20.unpacked (Sv20Neutral.nats t) = none := by
  have e := out_end (most := 0) T S h0 hl hn
  rw [if_neg hz] at e
  cases hu : Sv20.unpacked (Sv20Neutral.nats t) with
  | none => rfl
  | some b => rw [hu] at e; cases e
end My
open PySem PySem.W PyProof.Rows
namespace My
open PySem PySem.W PySem.Calls PyProof.Rows
theorem and_low (k a d : Nat) (h : d < 2 ^ k) : (2 ^ k * a) &&& d = 0 := by
  have e1 : d &&& (2 ^ k - 1) = d % 2 ^ k := Nat.and_two_pow_sub_one_eq_mod d k
  have e2 : (2 ^ k * a) &&& (2 ^ k - 1) = (2 ^ k * a) % 2 ^ k := Nat.and_two_pow_sub_one_eq_mod (2 ^ k * a) k
  have e3 : d % 2 ^ k = d := Nat.mod_eq_of_lt h
  have e4 : (2 ^ k * a) % 2 ^ k = 0 := Nat.mul_mod_right _ _
  have f1 : d &&& (2 ^ k - 1) = d := e1.trans e3
  have f2 : (2 ^ k * a) &&& (d &&& (2 ^ k - 1)) = ((2 ^ k * a) &&& (2 ^ k - 1)) &&& d := by rw [Nat.and_comm d (2 ^ k - 1), Nat.and_assoc]
  rw [f1, e2, e4, Nat.zero_and] at f2
  exact f2
theorem or_low6 {v d : Int} (h0 : 0 ≤ v) (d0 : 0 ≤ d) (d1 : d < 64) : Builtin.bitOr (v * 64) d = v * 64 + d := by
  have e : (v * 64).toNat &&& d.toNat = 0 := by
    have q : (v * 64).toNat = 2 ^ 6 * v.toNat := by omega
    rw [q]
    exact and_low 6 _ _ (by omega)
  rw [PyProof.Rows.bitOr_and, PyProof.Rows.bitAnd_pp (by omega) d0, e]
  exact Int.sub_zero _
section
variable {prog : Program} {w : World} {A : Around} {E : Value → Shared → Prop} {s : Shared} {x y : Int} {t u : Tok} {Q : Value → Shared → Prop}
theorem step_shl6 (h0 : 0 ≤ x) (h1 : x < 65536) (h : Q (.int (x * 64) s.toks) { s with toks := s.toks + 1 }) : wpAny (model prog w) A (binaryOp .LShift (.int x t) (.int 6 u)) Q E s := by
  have e : (2 : Int) ^ (6 : Int).toNat = 64 := by first | decide | rfl
  refine PyProof.Rows.lshift_int_small (by decide) (by decide) (by omega) ?_
  rw [e]
  exact h
theorem step_or6 (h0 : 0 ≤ x) (d : 0 ≤ y ∧ y ≤ 63) (h : Q (.int (x * 64 + y) s.toks) { s with toks := s.toks + 1 }) : wpAny (model prog w) A (binaryOp .BitOr (.int (x * 64) t) (.int y u)) Q E s := by
  refine PyProof.Rows.or_int ?_
  rw [or_low6 h0 d.1 (by omega)]
  exact h
theorem step_ord65 (h : Q (.int 65 s.toks) { s with toks := s.toks + 1 }) : wpAny (model prog w) A (call (.builtin "ord") [.str (PySem.Str.ofString "A") t]) Q E s :=
  ord_of_one (by decide) h
theorem step_ord90 (h : Q (.int 90 s.toks) { s with toks := s.toks + 1 }) : wpAny (model prog w) A (call (.builtin "ord") [.str (PySem.Str.ofString "Z") t]) Q E s :=
  ord_of_one (by decide) h
theorem step_ord97 (h : Q (.int 97 s.toks) { s with toks := s.toks + 1 }) : wpAny (model prog w) A (call (.builtin "ord") [.str (PySem.Str.ofString "a") t]) Q E s :=
  ord_of_one (by decide) h
theorem step_ord122 (h : Q (.int 122 s.toks) { s with toks := s.toks + 1 }) : wpAny (model prog w) A (call (.builtin "ord") [.str (PySem.Str.ofString "z") t]) Q E s :=
  ord_of_one (by decide) h
theorem step_ord48 (h : Q (.int 48 s.toks) { s with toks := s.toks + 1 }) : wpAny (model prog w) A (call (.builtin "ord") [.str (PySem.Str.ofString "0") t]) Q E s :=
  ord_of_one (by decide) h
theorem step_ord57 (h : Q (.int 57 s.toks) { s with toks := s.toks + 1 }) : wpAny (model prog w) A (call (.builtin "ord") [.str (PySem.Str.ofString "9") t]) Q E s :=
  ord_of_one (by decide) h
theorem step_ord45 (h : Q (.int 45 s.toks) { s with toks := s.toks + 1 }) : wpAny (model prog w) A (call (.builtin "ord") [.str (PySem.Str.ofString "-") t]) Q E s :=
  ord_of_one (by decide) h
theorem step_ord95 (h : Q (.int 95 s.toks) { s with toks := s.toks + 1 }) : wpAny (model prog w) A (call (.builtin "ord") [.str (PySem.Str.ofString "_") t]) Q E s :=
  ord_of_one (by decide) h
theorem step_shr0 (hy : y = 0) (h : ∀ q, q = x → Q (.int q s.toks) { s with toks := s.toks + 1 }) : wpAny (model prog w) A (binaryOp .RShift (.int x t) (.int y u)) Q E s := by
  subst hy
  refine PyProof.Rows.rshift_int (by decide) (h _ ?_)
  show Int.fdiv x 1 = x
  rw [Int.fdiv_eq_ediv_of_nonneg x (by decide)]; omega
theorem step_shr2 (hy : y = 2) (h : ∀ q, q = x / 4 → Q (.int q s.toks) { s with toks := s.toks + 1 }) : wpAny (model prog w) A (binaryOp .RShift (.int x t) (.int y u)) Q E s := by
  subst hy
  exact PyProof.Rows.rshift_int (by decide) (h _ (Int.fdiv_eq_ediv_of_nonneg x (by decide)))
theorem step_shr4 (hy : y = 4) (h : ∀ q, q = x / 16 → Q (.int q s.toks) { s with toks := s.toks + 1 }) : wpAny (model prog w) A (binaryOp .RShift (.int x t) (.int y u)) Q E s := by
  subst hy
  exact PyProof.Rows.rshift_int (by decide) (h _ (Int.fdiv_eq_ediv_of_nonneg x (by decide)))
theorem step_one0 (hy : y = 0) (h : ∀ q, q = 1 → Q (.int q s.toks) { s with toks := s.toks + 1 }) : wpAny (model prog w) A (binaryOp .LShift (.int 1 t) (.int y u)) Q E s := by
  subst hy
  exact PyProof.Rows.lshift_int_small (by decide) (by decide) (by decide) (h _ rfl)
theorem step_one2 (hy : y = 2) (h : ∀ q, q = 4 → Q (.int q s.toks) { s with toks := s.toks + 1 }) : wpAny (model prog w) A (binaryOp .LShift (.int 1 t) (.int y u)) Q E s := by
  subst hy
  exact PyProof.Rows.lshift_int_small (by decide) (by decide) (by decide) (h _ rfl)
theorem step_one4 (hy : y = 4) (h : ∀ q, q = 16 → Q (.int q s.toks) { s with toks := s.toks + 1 }) : wpAny (model prog w) A (binaryOp .LShift (.int 1 t) (.int y u)) Q E s := by
  subst hy
  exact PyProof.Rows.lshift_int_small (by decide) (by decide) (by decide) (h _ rfl)
theorem step_and0 (hy : y = 0) (h : ∀ r, r = 0 → Q (.int r s.toks) { s with toks := s.toks + 1 }) : wpAny (model prog w) A (binaryOp .BitAnd (.int x t) (.int y u)) Q E s := by
  subst hy
  refine PyProof.Rows.and_int (h _ ?_)
  have e : Builtin.bitAnd x 0 = x % 1 := kbt_mask x 0
  rw [e]; omega
theorem step_and2 (hy : y = 3) (h : ∀ r, r = x % 4 → Q (.int r s.toks) { s with toks := s.toks + 1 }) : wpAny (model prog w) A (binaryOp .BitAnd (.int x t) (.int y u)) Q E s := by
  subst hy
  exact PyProof.Rows.and_int (h _ (kbt_mask x 2))
theorem step_and4 (hy : y = 15) (h : ∀ r, r = x % 16 → Q (.int r s.toks) { s with toks := s.toks + 1 }) : wpAny (model prog w) A (binaryOp .BitAnd (.int x t) (.int y u)) Q E s := by
  subst hy
  exact PyProof.Rows.and_int (h _ (kbt_mask x 4))
end
end My
open PySem PySem.W PyProof.Rows
namespace My
theorem said : PySem.Challenge.rw_tokenpass_s02_tk_unpack.wellSaid = true := by decide +kernel
theorem bounds {k : Int} {ns : List Int} (h : PySem.Challenge.rw_tokenpass_s02_tk_unpack.pre [WData.int k, ofPy (PyData.list (ns.map PyData.int))] = true) : ns.length ≤ 100000 ∧ B8 ns := by
  obtain ⟨a, w, q, e⟩ := os_pre said h
  obtain ⟨m, b, u⟩ := a
  have e1 := os_j_int (List.cons.inj e).1
  have e2 := os_j_ints (List.cons.inj (List.cons.inj e).2).1
  subst e1 e2
  have w' : (Codec.inInt (Int.negSucc 2147483647) (Int.ofNat 2147483647) k && ((Codec.inNat 0 100000 ns.length && ns.all (Codec.inInt (Int.ofNat 0) (Int.ofNat 255))) && true)) = true := w
  rw [Bool.and_eq_true, Bool.and_eq_true, Bool.and_eq_true] at w'
  obtain ⟨w1, ⟨w2, w3⟩, _⟩ := w'
  unfold Codec.inNat at w2
  rw [Bool.and_eq_true, decide_eq_true_eq, decide_eq_true_eq] at w2
  refine ⟨w2.2, ⟨fun x hx => ?_⟩⟩
  have h3 := List.all_eq_true.mp w3 x hx
  unfold Codec.inInt at h3
  rw [Bool.and_eq_true, decide_eq_true_eq, decide_eq_true_eq] at h3
  exact h3
end My
namespace My
theorem fin_list {l k : List Int} (h : l = k) : PySem.W.WData.list (PySem.W.ofPys (l.map PySem.PyData.int)) = PySem.W.WData.list (k.map PySem.W.WData.int) := by
  subst h
  rw [PySem.W.ofPys_ints]
theorem fin_py {z : Int} {k : List Int} (h : [z] = k) : PySem.W.ofPy (PySem.PyData.list [PySem.PyData.int z]) = PySem.W.WData.list (k.map PySem.W.WData.int) := by
  subst h
  simp [PySem.W.ofPy, PySem.W.ofPys]
theorem fm4 {n : Nat} : ((n : Int)).fmod 4 = ((n % 4 : Nat) : Int) := by
  rw [Int.fmod_eq_emod_of_nonneg _ (by decide)]
  omega
theorem read_one9 {all : List Int} (h : ((all.length : Nat) : Int).fmod 4 = 1) : Sv20.unpacked (Sv20Neutral.nats all) = none := by
  rw [fm4] at h
  exact read_one (by omega)
theorem out_zero9 {t data : List Int} {h b : Int} (T : Read t data h b) (S : St h b) (hn : ((t.length : Nat) : Int).fmod 4 ≠ 1) (h0 : 0 ≤ h) (hl : 8 * (data.length : Int) + b = 6 * (t.length : Int)) (hz : h = 0) :
    (Sv20.unpacked (Sv20Neutral.nats t)).map Sv20Neutral.ints = some data := by
  rw [fm4] at hn
  exact out_zero T S h0 hl (by omega) hz
theorem out_left9 {t data : List Int} {h b : Int} (T : Read t data h b) (S : St h b) (hn : ((t.length : Nat) : Int).fmod 4 ≠ 1) (h0 : 0 ≤ h) (hl : 8 * (data.length : Int) + b = 6 * (t.length : Int)) (hz : ¬ h = 0) :
    Sv20.unpacked (Sv20Neutral.nats t) = none := by
  rw [fm4] at hn
  exact out_left T S h0 hl (by omega) hz
theorem six_facts (v : Int) : -1 ≤ sx v ∧ sx v < 64 := sx_fact v
end My
local macro_rules | `(tactic| walk_at "call builtin:ord") => `(tactic| (k_here; first | with_reducible refine My.step_ord65 ?_ | with_reducible refine My.step_ord90 ?_ | with_reducible refine My.step_ord97 ?_ | with_reducible refine My.step_ord122 ?_ | with_reducible refine My.step_ord48 ?_ | with_reducible refine My.step_ord57 ?_ | with_reducible refine My.step_ord45 ?_ | with_reducible refine My.step_ord95 ?_))
local macro_rules | `(tactic| walk_at "binaryOp LShift int int") => `(tactic| (k_here; (with_reducible show wpAny _ _ (binaryOp Operator.LShift (Value.int _ _) (Value.int 6 _)) _ _ _); (rcases (My.St.d (by assumption)) with ⟨he1, he2⟩ | ⟨he1, he2⟩ | ⟨he1, he2⟩ | ⟨he1, he2⟩) <;> subst he1 <;> k_dflt (refine' My.step_shl6 ?k1 ?k2 ?_; (case k1 => omega); (case k2 => omega))))
local macro_rules | `(tactic| walk_at "binaryOp LShift int int") => `(tactic| (k_here; (with_reducible show wpAny _ _ (binaryOp Operator.LShift (Value.int 1 _) (Value.int _ _)) _ _ _); k_dflt (first | refine My.step_one0 (by decide) ?_ | refine My.step_one2 (by decide) ?_ | refine My.step_one4 (by decide) ?_); intro p' hp'))
local macro_rules | `(tactic| walk_at "binaryOp BitOr int int") => `(tactic| (k_here; (with_reducible show wpAny _ _ (binaryOp Operator.BitOr (Value.int (_ * 64) _) (Value.int _ _)) _ _ _); k_dflt (refine' My.step_or6 ?k1 ?k2 ?_; (case k1 => omega); (case k2 => omega))))
local macro_rules | `(tactic| walk_at "binaryOp RShift int int") => `(tactic| (k_here; k_dflt (first | refine My.step_shr0 (by decide) ?_ | refine My.step_shr2 (by decide) ?_ | refine My.step_shr4 (by decide) ?_); intro q' hq'))
local macro_rules | `(tactic| walk_at "binaryOp BitAnd int int") => `(tactic| (k_here; k_dflt (first | refine My.step_and0 (by omega) ?_ | refine My.step_and2 (by omega) ?_ | refine My.step_and4 (by omega) ?_); intro r' hr'))
example : List Int → List Int → Int → Int → Prop := fun pre data held bits => data.length ≤ pre.length ∧ 8 * (data.length : Int) + bits = 6 * (pre.length : Int) ∧ 0 ≤ held ∧ My.St held bits ∧ My.Read pre data held bits
set_option maxRecDepth 100000 in
set_option maxHeartbeats 8000000 in
theorem PySem.Challenge.cw_tokenpass_s02_tk_unpack_holds : PySem.Challenge.rw_tokenpass_s02_tk_unpack.Holds := by
  k_with "state" => k_dflt (first
    | exact My.put6 (by assumption) (by omega) (by omega) (My.inB (by assumption) (by assumption)) (by omega) (by omega) (by omega) (by omega) (by omega) (by omega)
    | exact My.put4 (by assumption) (by omega) (by omega) (My.inB (by assumption) (by assumption)) (by omega) (by omega) (by omega) (by omega) (by omega) (by omega)
    | exact My.put0 (by assumption) (by omega) (by omega) (My.inB (by assumption) (by assumption)) (by omega) (by omega) (by omega) (by omega) (by omega) (by omega)
    | exact My.hold0 (by assumption) (by omega) (by omega) (My.inB (by assumption) (by assumption)) (by omega) (by omega) (by omega) (by omega)
    | exact My.start2
    | (have h := My.start2; exact h))
  k_with "tree" => (unfold My.sx; (repeat' split) <;> omega)
  k_with "fact six_of" => exact My.six_facts
  k_with "call ref" => k_call_by "six_of" My.sx
  k_with "pyIter ref" => k_state (fun pre data held bits => data.length ≤ pre.length ∧ 8 * (data.length : Int) + bits = 6 * (pre.length : Int) ∧ 0 ≤ held ∧ My.St held bits ∧ My.Read pre data held bits) "data" "held" "bits"
  open_ks0 with [.int 0, .list []]
  obtain ⟨osLen, osB⟩ := My.bounds (by assumption)
  ks_steps
  all_goals (
    os_open My.said with a w q e
    obtain ⟨m, bb, u⟩ := a
    have e1 := os_j_int (List.cons.inj e).1
    have e2 := os_j_ints (List.cons.inj (List.cons.inj e).2).1
    subst e1 e2
    show _ = WData.list (List.map WData.int (PySv20.tk_unpack _ _)))
  all_goals first
    | exact My.fin_py (My.unpack_neg (by omega))
    | exact My.fin_py (My.unpack_none (by omega) (by omega) (My.read_one9 (by with_reducible assumption)))
    | exact My.fin_py (My.unpack_none (by omega) (by omega) (My.read_no kEq (My.inB osB kMem).1 (My.inB osB kMem).2 (by omega)))
    | exact My.fin_py (My.unpack_none (by omega) (by omega) (My.out_left9 (by with_reducible assumption) (by with_reducible assumption) (by with_reducible assumption) (by omega) (by omega) (by omega)))
    | (refine My.fin_py ?_; rw [My.unpack_some (by omega) (by omega) (My.out_zero9 (by with_reducible assumption) (by with_reducible assumption) (by with_reducible assumption) (by omega) (by omega) (by omega)), if_pos (by omega)])
    | (refine My.fin_list ?_; rw [My.unpack_some (by omega) (by omega) (My.out_zero9 (by with_reducible assumption) (by with_reducible assumption) (by with_reducible assumption) (by omega) (by omega) (by omega)), if_neg (by omega)]; rfl)
#print axioms PySem.Challenge.cw_tokenpass_s02_tk_unpack_holds
