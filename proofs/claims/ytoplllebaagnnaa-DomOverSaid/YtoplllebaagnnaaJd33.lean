/-
  Blocks on all ways, over plain data: kids, depths, how many stand under each.
  Blocks on all ways, over plain data: places in a row.
-/
import Derived.Test.YtoplllebaagnnaaJd32
namespace Go.Proofs.Ytoplllebaagnnaa
set_option linter.unusedVariables false
set_option linter.unusedSimpArgs false

def kidsOf (up : List Int) (L : List Nat) (a : Nat) : List Nat := L.filter fun k => decide (up.getD k 0 = (a : Int))
def natsI (L : List Nat) : List Int := L.map fun (b : Nat) => (b : Int)
theorem natsI_cons (b : Nat) (L : List Nat) : natsI (b :: L) = (b : Int) :: natsI L := rfl
theorem kidsOf_snoc (up : List Int) (L : List Nat) (b a : Nat) : kidsOf up (L ++ [b]) a = if up.getD b 0 = (a : Int) then kidsOf up L a ++ [b] else kidsOf up L a := by
  unfold kidsOf
  rw [List.filter_append]
  by_cases h : up.getD b 0 = (a : Int)
  · simp only [h, if_pos, List.filter_cons, decide_true, List.filter_nil]
  · rw [if_neg h]; simp only [List.filter_cons, decide_eq_false h, List.filter_nil]; simp
structure OrU (g : List GB) (up : List Int) (O : List Nat) : Prop where
  o : OrdOk g O
  u : UpOk g up
  n : g.length ≤ 1000
  z : 0 ∈ O
theorem OrU.at {g : List GB} {up : List Int} {O : List Nat} (h : OrU g up O) {pre : List Nat} {b : Nat} {post : List Nat} (e : O = pre ++ b :: post) : b < g.length ∧ RR g 0 b ∧ b ∉ pre ∧ b ∉ post ∧ ((b = 0 ∧ up.getD b 0 = -1) ∨ (b ≠ 0 ∧ ∃ u : Nat, up.getD b 0 = u ∧ u ∈ pre ∧ u ≠ b ∧ u < g.length ∧ OvD g u b)) := by
  have hb : b ∈ O := by rw [e]; simp
  have hr := (h.o.mem b).1 hb
  have hnd := h.o.nd
  rw [e] at hnd
  have hn := List.nodup_append.1 hnd
  refine ⟨h.o.lt b hb, hr, fun hm => hn.2.2 b hm b (by simp) rfl, (List.nodup_cons.1 hn.2.1).1, ?_⟩
  by_cases h0 : b = 0
  · exact .inl ⟨h0, h.u.no b (h.o.lt b hb) (.inl h0)⟩
  · obtain ⟨u, u1, u2, u3, u4⟩ := h.u.is_ b hr h0
    have hu := h.o.ahead _ pre b post rfl e u u3 u2
    exact .inr ⟨h0, u, u1, hu, u2, h.o.lt u (by rw [e]; exact List.mem_append_left _ hu), u3⟩
theorem OrU.len {g : List GB} {up : List Int} {O : List Nat} (h : OrU g up O) : O.length ≤ g.length := by
  have key : ∀ (n : Nat) (l : List Nat), l.Nodup → (∀ x ∈ l, x < n) → l.length ≤ n := by
    intro n
    induction n with
    | zero => intro l _ hl; cases l with
      | nil => simp
      | cons x l => have := hl x (by simp); omega
    | succ n ih =>
      intro l hn hl
      by_cases hm : n ∈ l
      · have h1 := ih (l.erase n) (hn.erase n) (fun x hx => by
          have h2 := (List.Nodup.mem_erase_iff hn).1 hx
          have := hl x h2.2
          have := h2.1
          omega)
        rw [List.length_erase_of_mem hm] at h1
        omega
      · have := ih l hn (fun x hx => by
          have := hl x hx
          have : x ≠ n := fun e => hm (e ▸ hx)
          omega)
        omega
  exact key _ _ h.o.nd h.o.lt
/-- Pigeons. -/
theorem all_met {n : Nat} {l : List Nat} (hn : l.Nodup) (hl : ∀ x ∈ l, x < n) (hlen : l.length = n) {j : Nat} (hj : j < n) : j ∈ l := Classical.byContradiction fun hm => by
  have key : ∀ (n : Nat) (l : List Nat), l.Nodup → (∀ x ∈ l, x < n) → l.length ≤ n := by
    intro n
    induction n with
    | zero => intro l _ hl; cases l with
      | nil => simp
      | cons x l => have := hl x (by simp); omega
    | succ n ih =>
      intro l hn hl
      by_cases hm : n ∈ l
      · have h1 := ih (l.erase n) (hn.erase n) (fun x hx => by
          have h2 := (List.Nodup.mem_erase_iff hn).1 hx
          have := hl x h2.2
          have := h2.1
          omega)
        rw [List.length_erase_of_mem hm] at h1
        omega
      · have := ih l hn (fun x hx => by
          have := hl x hx
          have : x ≠ n := fun e => hm (e ▸ hx)
          omega)
        omega
  have := key n (j :: l) (List.nodup_cons.2 ⟨hm, hn⟩) (fun x hx => by
    rcases List.mem_cons.1 hx with rfl | hx
    · exact hj
    · exact hl x hx)
  simp at this
  omega

/-- Kids and depths. -/
structure GrI (g : List GB) (up : List Int) (pre : List Nat) (kids : List (List Int)) (deep : List Int) : Prop where
  lk : kids.length = g.length
  ld : deep.length = g.length
  ks : ∀ a, a < g.length → kids.getD a [] = natsI (kidsOf up pre a)
  z : deep.getD 0 0 = 0
  d : ∀ b ∈ pre, b ≠ 0 → ∃ u : Nat, up.getD b 0 = u ∧ deep.getD b 0 = deep.getD u 0 + 1
  bd : ∀ b ∈ pre, 0 ≤ deep.getD b 0 ∧ deep.getD b 0 ≤ pre.length
theorem gr_ok {g : List GB} {up : List Int} {O : List Nat} (h : OrU g up O) : ∀ (rest pre : List Nat) (kids : List (List Int)) (deep : List Int), O = pre ++ rest → GrI g up pre kids deep →
    ∃ kids' deep', grRun up (natsI rest) kids deep = some (kids', deep') ∧ GrI g up O kids' deep'
  | [], pre, kids, deep, e, hi => ⟨kids, deep, rfl, by rw [e, List.append_nil]; exact hi⟩
  | b :: rest, pre, kids, deep, e, hi => by
    obtain ⟨hb, hr, hnp, hnr, hc⟩ := h.at e
    have hul := h.u.len
    have hlen := h.len
    have hpl : pre.length < g.length := by rw [e] at hlen; simp at hlen; omega
    have hn := h.n
    have e2 : O = (pre ++ [b]) ++ rest := by rw [e]; simp
    rw [natsI_cons, grRun, rdI_at (by omega), Option.bind_some]
    rcases hc with ⟨h0, hu⟩ | ⟨h0, u, hu, hup, hub, hun, -⟩
    · rw [if_pos hu]
      refine gr_ok h rest (pre ++ [b]) kids deep e2 ⟨hi.lk, hi.ld, fun a ha => ?_, hi.z, fun c hc hc0 => ?_, fun c hc => ?_⟩
      · rw [kidsOf_snoc, if_neg (by omega)]; exact hi.ks a ha
      · rcases List.mem_append.1 hc with hc | hc
        · exact hi.d c hc hc0
        · simp at hc; omega
      · rcases List.mem_append.1 hc with hc | hc
        · have := hi.bd c hc; rw [List.length_append, List.length_singleton]; omega
        · simp at hc
          rw [hc, h0, hi.z, List.length_append, List.length_singleton]; omega
    · have hd := hi.bd u hup
      rw [if_neg (by omega), hu, Int.toNat_natCast]
      have hkl : (kids.getD u []).length < 1048576 := by
        rw [hi.ks u hun]
        unfold natsI kidsOf
        rw [List.length_map]
        have := List.length_filter_le (fun k => decide (up.getD k 0 = (u : Int))) pre
        omega
      have hlk := hi.lk
      have hld := hi.ld
      rw [if_pos ⟨by omega, by omega, hkl⟩, rdI_at (by omega), Option.bind_some, if_pos ⟨by omega, by omega⟩]
      have hw : wrI deep (b : Int) (deep.getD u 0 + 1) = some (deep.set b (deep.getD u 0 + 1)) := by unfold wrI; rw [if_pos (by omega), Int.toNat_natCast]
      rw [hw, Option.bind_some]
      have hs : ∀ c, c ≠ b → (deep.set b (deep.getD u 0 + 1)).getD c 0 = deep.getD c 0 := fun c hc => by rw [getD_set_eq, if_neg (by omega)]
      have hsb : (deep.set b (deep.getD u 0 + 1)).getD b 0 = deep.getD u 0 + 1 := by rw [getD_set_eq, if_pos ⟨rfl, by omega⟩]
      refine gr_ok h rest (pre ++ [b]) _ _ e2 ⟨by simpa using hlk, by simpa using hld, fun a ha => ?_, by rw [hs 0 (fun e => h0 e.symm)]; exact hi.z, fun c hc hc0 => ?_, fun c hc => ?_⟩
      · rw [getD_set_eq, kidsOf_snoc]
        by_cases hau : a = u
        · subst hau
          rw [if_pos ⟨rfl, by omega⟩, if_pos hu, hi.ks a ha]
          unfold natsI; simp
        · rw [if_neg (by omega), if_neg (by omega)]; exact hi.ks a ha
      · rcases List.mem_append.1 hc with hc | hc
        · obtain ⟨v, v1, v2⟩ := hi.d c hc hc0
          refine ⟨v, v1, ?_⟩
          obtain ⟨l1, l2, e3⟩ := List.append_of_mem hc
          obtain ⟨-, -, -, -, hq⟩ := h.at (pre := l1) (b := c) (post := l2 ++ b :: rest) (by rw [e, e3]; simp)
          rcases hq with ⟨q, _⟩ | ⟨_, v', w1, w2, _⟩
          · omega
          · obtain rfl : v = v' := by omega
            have hvp : v ∈ pre := by rw [e3]; exact List.mem_append_left _ w2
            rw [hs c (fun e => hnp (e ▸ hc)), hs v (fun e => hnp (e ▸ hvp))]
            exact v2
        · simp at hc
          subst hc
          exact ⟨u, hu, by rw [hsb, hs u hub]⟩
      · rcases List.mem_append.1 hc with hc | hc
        · have := hi.bd c hc
          rw [hs c (fun e => hnp (e ▸ hc)), List.length_append, List.length_singleton]
          omega
        · simp at hc
          rw [hc, hsb, List.length_append, List.length_singleton]; omega
theorem gr_start {g : List GB} {up : List Int} : GrI g up [] (List.replicate g.length []) (List.replicate g.length 0) where
  lk := by simp
  ld := by simp
  ks := fun a ha => by simp [List.getD, ha, kidsOf, natsI]
  z := by simp only [List.getD, List.getElem?_replicate]; split <;> rfl
  d := fun b hb => by cases hb
  bd := fun b hb => by cases hb

def sumL (many : List Int) (L : List Nat) : Int := (L.map fun k => many.getD k 0).sum
def sumK (up many : List Int) (L : List Nat) (a : Nat) : Int := sumL many (kidsOf up L a)
theorem sumL_app (many : List Int) (L M : List Nat) : sumL many (L ++ M) = sumL many L + sumL many M := by simp [sumL]
theorem sumL_one (many : List Int) (b : Nat) : sumL many [b] = many.getD b 0 := by simp [sumL]
theorem sumL_same {many many' : List Int} {L : List Nat} (h : ∀ c ∈ L, many'.getD c 0 = many.getD c 0) : sumL many' L = sumL many L := by
  unfold sumL
  congr 1
  exact List.map_congr_left h
theorem sumL_nonneg {many : List Int} : ∀ {L : List Nat}, (∀ c ∈ L, 0 ≤ many.getD c 0) → 0 ≤ sumL many L
  | [], _ => by simp [sumL]
  | x :: L, h => by
    have h1 := sumL_nonneg (L := L) (fun c hc => h c (List.mem_cons_of_mem _ hc))
    have h2 := h x (by simp)
    have : sumL many (x :: L) = many.getD x 0 + sumL many L := by simp [sumL]
    omega
theorem sumL_mem {many : List Int} : ∀ {L : List Nat} {b : Nat}, (∀ c ∈ L, 0 ≤ many.getD c 0) → b ∈ L → many.getD b 0 ≤ sumL many L
  | [], b, _, h => by cases h
  | x :: L, b, h, hb => by
    have h1 := sumL_nonneg (L := L) (fun c hc => h c (List.mem_cons_of_mem _ hc))
    have h2 := h x (by simp)
    have e : sumL many (x :: L) = many.getD x 0 + sumL many L := by simp [sumL]
    rcases List.mem_cons.1 hb with rfl | hb
    · omega
    · have := sumL_mem (L := L) (fun c hc => h c (List.mem_cons_of_mem _ hc)) hb
      omega
theorem sumL_add {many many' : List Int} {u : Nat} {x : Int} : ∀ {L : List Nat}, L.Nodup → u ∈ L → many'.getD u 0 = many.getD u 0 + x → (∀ c ∈ L, c ≠ u → many'.getD c 0 = many.getD c 0) → sumL many' L = sumL many L + x
  | [], _, h, _, _ => by cases h
  | y :: L, hn, hu, h1, h2 => by
    have e : ∀ m : List Int, sumL m (y :: L) = m.getD y 0 + sumL m L := fun m => by simp [sumL]
    obtain ⟨n1, n2⟩ := List.nodup_cons.1 hn
    rw [e, e]
    rcases List.mem_cons.1 hu with rfl | hu
    · rw [h1, sumL_same (many := many) (many' := many') (L := L) (fun c hc => h2 c (List.mem_cons_of_mem _ hc) (fun e => n1 (e ▸ hc)))]
      omega
    · rw [sumL_add n2 hu h1 (fun c hc hne => h2 c (List.mem_cons_of_mem _ hc) hne), h2 y (by simp) (fun e => n1 (e ▸ hu))]
      omega
theorem kidsOf_cons (up : List Int) (L : List Nat) (b a : Nat) : kidsOf up (b :: L) a = if up.getD b 0 = (a : Int) then b :: kidsOf up L a else kidsOf up L a := by
  unfold kidsOf
  by_cases h : up.getD b 0 = (a : Int)
  · rw [if_pos h, List.filter_cons, if_pos (by simpa using h)]
  · rw [if_neg h, List.filter_cons, if_neg (by simpa using h)]
theorem sumK_cons (up many : List Int) (L : List Nat) (b a : Nat) : sumK up many (b :: L) a = (if up.getD b 0 = (a : Int) then many.getD b 0 else 0) + sumK up many L a := by
  unfold sumK
  rw [kidsOf_cons]
  split
  · simp [sumL]
  · omega
theorem sumK_same {up many many' : List Int} {L : List Nat} (h : ∀ c ∈ L, many'.getD c 0 = many.getD c 0) (a : Nat) : sumK up many' L a = sumK up many L a :=
  sumL_same fun c hc => h c (List.mem_filter.1 hc).1

/-- How many blocks stand under each. -/
structure MnI (g : List GB) (up : List Int) (pre rest : List Nat) (many : List Int) : Prop where
  l : many.length = g.length
  nn : ∀ a, 0 ≤ many.getD a 0
  s : pre ≠ [] → sumL many pre = rest.length
  k : ∀ a, a < g.length → many.getD a 0 = (if a ∈ rest then 1 else 0) + sumK up many rest a
  z : pre = [] → many.getD 0 0 = rest.length
theorem mn_ok {g : List GB} {up : List Int} {O : List Nat} (h : OrU g up O) : ∀ (k : Nat) (pre rest : List Nat) (many : List Int), pre.length = k → O = pre ++ rest → MnI g up pre rest many → ∃ many', mnRun up (natsI pre).reverse many = some many' ∧ MnI g up [] O many'
  | 0, pre, rest, many, hl, e, hi => by
    obtain rfl : pre = [] := List.length_eq_zero_iff.1 hl
    exact ⟨many, rfl, by rw [e]; exact hi⟩
  | k + 1, pre, rest, many, hl, e, hi => by
    obtain ⟨p, b, rfl⟩ : ∃ p b, pre = p ++ [b] := by
      rcases List.eq_nil_or_concat pre with h | ⟨p, b, h⟩
      · rw [h] at hl; simp at hl
      · exact ⟨p, b, by rw [h]; simp⟩
    have e2 : O = p ++ b :: rest := by rw [e]; simp
    obtain ⟨hb, hr, hnp, hnr, hc⟩ := h.at e2
    have hul := h.u.len
    have hml := hi.l
    have hlen := h.len
    have hn := h.n
    have hrl : rest.length ≤ g.length := by rw [e] at hlen; simp at hlen; omega
    have hs := hi.s (by simp)
    have hnn := hi.nn
    have hbm : many.getD b 0 ≤ rest.length := by rw [← hs]; exact sumL_mem (fun c _ => hnn c) (by simp)
    rw [sumL_app, sumL_one] at hs
    have hpn : p.Nodup := by
      have := h.o.nd
      rw [e2] at this
      exact (List.nodup_append.1 this).1
    have erev : (natsI (p ++ [b])).reverse = (b : Int) :: (natsI p).reverse := by unfold natsI; simp
    rw [erev, mnRun, rdI_at (by omega), Option.bind_some, if_pos (by have := hnn b; unfold near; omega), rdI_at (by omega), Option.bind_some, Int.toNat_natCast]
    have hb1 : ∀ a, (many.set b (many.getD b 0 + 1)).getD a 0 = if a = b then many.getD b 0 + 1 else many.getD a 0 := fun a => by
      rw [getD_set_eq]
      by_cases e : a = b
      · rw [if_pos ⟨e, by omega⟩, if_pos e]
      · rw [if_neg (by omega), if_neg e]
    have hkb := hi.k b hb
    rw [if_neg hnr] at hkb
    rcases hc with ⟨h0, hu⟩ | ⟨h0, u, hu, hup, hub, hun, -⟩
    · rw [if_pos hu]
      subst h0
      -- the first block: nothing stands ahead
      have hp0 : p = [] := by
        cases p with
        | nil => rfl
        | cons x p =>
          exfalso
          have hx := h.at (pre := []) (b := x) (post := p ++ 0 :: rest) (by rw [e2]; simp)
          rcases hx.2.2.2.2 with ⟨q, _⟩ | ⟨_, u, _, q, _⟩
          · exact hx.2.2.2.1 (by rw [q]; simp)
          · cases q
      subst hp0
      have hsame : ∀ a ∈ rest, (many.set 0 (many.getD 0 0 + 1)).getD a 0 = many.getD a 0 := fun a ha => by
        rw [hb1, if_neg (fun (e : a = 0) => hnr (e ▸ ha))]
      refine mn_ok h k [] (0 :: rest) _ (by simp at hl ⊢; omega) (by rw [e2]) ⟨by simpa using hml, fun a => ?_, fun h => absurd rfl h, fun a ha => ?_, fun _ => ?_⟩
      · have q1 := hnn a
        have q2 := hnn 0
        rw [hb1 a]
        by_cases ea : a = 0
        · rw [if_pos ea]; omega
        · rw [if_neg ea]; exact q1
      · rw [hb1 a, sumK_cons, hu, if_neg (show ¬ (-1 : Int) = (a : Int) by omega), sumK_same hsame]
        by_cases ea : a = 0
        · subst ea
          rw [if_pos rfl, if_pos (by simp), hkb]; omega
        · rw [if_neg ea, hi.k a ha]
          by_cases hm : a ∈ rest
          · rw [if_pos hm, if_pos (by simp [hm])]; omega
          · rw [if_neg hm, if_neg (by simp [hm, ea])]; omega
      · rw [hb1, if_pos rfl]
        have : sumL many [] = 0 := rfl
        rw [this] at hs
        rw [List.length_cons]; omega
    · rw [if_neg (by omega), hu, Int.toNat_natCast]
      have hum : many.getD u 0 ≤ rest.length := by
        have := sumL_mem (many := many) (fun c _ => hnn c) hup
        have := hnn b
        omega
      have hru : rdI (many.set b (many.getD b 0 + 1)) (u : Int) = some (many.getD u 0) := by
        rw [rdI_at (by simpa [hml] using hun), hb1, if_neg hub]
      rw [hru, Option.bind_some, if_pos (by have := hnn u; unfold near; omega), hb1, if_pos rfl]
      obtain ⟨M, hM⟩ : ∃ M, M = (many.set b (many.getD b 0 + 1)).set u (many.getD u 0 + (many.getD b 0 + 1)) := ⟨_, rfl⟩
      have hMa : ∀ a, M.getD a 0 = if a = u then many.getD u 0 + (many.getD b 0 + 1) else if a = b then many.getD b 0 + 1 else many.getD a 0 := fun a => by
        rw [hM, getD_set_eq, hb1]
        by_cases e : a = u
        · rw [if_pos ⟨e, by simpa [hml] using hun⟩, if_pos e]
        · rw [if_neg (by simp [e]), if_neg e]
      have hur : u ∉ rest := fun hm => by
        have := h.o.nd
        rw [e2] at this
        exact (List.nodup_append.1 this).2.2 u hup u (List.mem_cons_of_mem _ hm) rfl
      have hsame : ∀ a ∈ rest, M.getD a 0 = many.getD a 0 := fun a ha => by
        rw [hMa, if_neg (fun (e : a = u) => hur (e ▸ ha)), if_neg (fun (e : a = b) => hnr (e ▸ ha))]
      have hMb : M.getD b 0 = many.getD b 0 + 1 := by rw [hMa, if_neg (fun e => hub e.symm), if_pos rfl]
      rw [← hM]
      refine mn_ok h k p (b :: rest) M (by simpa using hl) e2 ⟨by rw [hM]; simpa using hml, fun a => ?_, fun _ => ?_, fun a ha => ?_, fun hp => by rw [hp] at hup; cases hup⟩
      · rw [hMa]; have := hnn a; have := hnn u; have := hnn b; split
        · omega
        · split <;> omega
      · rw [sumL_add (many := many) (many' := M) hpn hup (x := many.getD b 0 + 1) (by rw [hMa, if_pos rfl]) (fun c hc hne => by rw [hMa, if_neg hne, if_neg (fun (e : c = b) => hnp (e ▸ hc))]), List.length_cons]
        omega
      · rw [sumK_cons, sumK_same hsame, hu, hMb]
        by_cases eu : a = u
        · subst eu
          rw [if_pos rfl, hMa, if_pos rfl, hi.k a ha, if_neg hur, if_neg (by simp [hub, hur])]
          omega
        · rw [if_neg (show ¬ (u : Int) = (a : Int) by omega), hMa, if_neg eu]
          by_cases eb : a = b
          · subst eb
            rw [if_pos rfl, if_pos (by simp), hkb]; omega
          · rw [if_neg eb, hi.k a ha]
            by_cases hm : a ∈ rest
            · rw [if_pos hm, if_pos (by simp [hm])]; omega
            · rw [if_neg hm, if_neg (by simp [hm, eb])]; omega
theorem mn_start {g : List GB} {up : List Int} {O : List Nat} (h : OrU g up O) : MnI g up O [] (List.replicate g.length 0) where
  l := by simp
  nn := fun a => by
    have : (List.replicate g.length (0 : Int)).getD a 0 = 0 := by simp only [List.getD, List.getElem?_replicate]; split <;> rfl
    rw [this]; exact Int.le_refl _
  s := fun hne => by
    have h0 : ∀ a, (List.replicate g.length (0 : Int)).getD a 0 = 0 := fun a => by simp only [List.getD, List.getElem?_replicate]; split <;> rfl
    unfold sumL
    have : (O.map fun k => (List.replicate g.length (0 : Int)).getD k 0) = O.map fun _ => (0 : Int) := List.map_congr_left fun a _ => h0 a
    rw [this]
    clear this h h0 hne
    induction O with
    | nil => rfl
    | cons x O ih => simpa using ih
  k := fun a ha => by simp [List.getD, ha, sumK, kidsOf, sumL]
  z := fun e => by have := h.z; rw [e] at this; cases this
end Go.Proofs.Ytoplllebaagnnaa
namespace Go.Proofs.Ytoplllebaagnnaa
set_option linter.unusedVariables false
set_option linter.unusedSimpArgs false

/-- Blocks in a row, each ahead of all that it stands over. -/
structure PlI (g : List GB) (up many : List Int) (N : Nat) (pre rest : List Nat) (place past : List Int) : Prop where
  lp : place.length = g.length
  lq : past.length = g.length
  un : ∀ c, c < g.length → c ∉ pre → place.getD c 0 = -1
  p0 : ∀ a ∈ pre, 0 ≤ place.getD a 0 ∧ place.getD a 0 + 1 ≤ past.getD a 0
  cap : ∀ a ∈ pre, past.getD a 0 + sumK up many rest a = place.getD a 0 + many.getD a 0
  top : ∀ a ∈ pre, place.getD a 0 + many.getD a 0 ≤ N
  p1 : ∀ x ∈ pre, ∀ y ∈ pre, place.getD x 0 ≤ place.getD y 0 → place.getD y 0 < place.getD x 0 + many.getD x 0 → OvD g x y
  nst : ∀ x ∈ pre, ∀ y ∈ pre, OvD g x y → place.getD x 0 ≤ place.getD y 0 ∧ place.getD y 0 + many.getD y 0 ≤ place.getD x 0 + many.getD x 0
  fp : ∀ a ∈ pre, ∀ y ∈ pre, past.getD a 0 ≤ place.getD y 0 → place.getD y 0 < place.getD a 0 + many.getD a 0 → False
  ff : ∀ a ∈ pre, ∀ u ∈ pre, a ≠ u → ∀ z : Int, past.getD a 0 ≤ z → z < place.getD a 0 + many.getD a 0 → past.getD u 0 ≤ z → z < place.getD u 0 + many.getD u 0 → False
  fi : ∀ a ∈ pre, ∀ x ∈ pre, ∀ z : Int, past.getD a 0 ≤ z → z < place.getD a 0 + many.getD a 0 → place.getD x 0 ≤ z → z < place.getD x 0 + many.getD x 0 → OvD g x a
theorem pl_ok {g : List GB} {up many : List Int} {O : List Nat} (h : OrU g up O) (hm : MnI g up [] O many) : ∀ (rest pre : List Nat) (place past : List Int), O = pre ++ rest → PlI g up many O.length pre rest place past →
    ∃ place' past', plRun up many (natsI rest) place past = some (place', past') ∧ PlI g up many O.length O [] place' past'
  | [], pre, place, past, e, hi => ⟨place, past, rfl, by rw [List.append_nil] at e; rw [← e] at hi; exact hi⟩
  | b :: rest, pre, place, past, e, hi => by
    obtain ⟨hb, hr, hnp, hnr, hc⟩ := h.at e
    have hul := h.u.len
    have hlen := h.len
    have hn := h.n
    have e2 : O = (pre ++ [b]) ++ rest := by rw [e]; simp
    have hbO : b ∈ O := by rw [e]; simp
    have hml := hm.l
    have hlp := hi.lp
    have hlq := hi.lq
    have hm1 : ∀ a, a < g.length → a ∈ O → 1 ≤ many.getD a 0 := fun a ha haO => by
      have := hm.k a ha
      rw [if_pos haO] at this
      have h2 : 0 ≤ sumK up many O a := sumL_nonneg fun c _ => hm.nn c
      omega
    have hmb := hm1 b hb hbO
    have hmem : ∀ {x : Nat}, x ∈ pre ++ [b] → x ∈ pre ∨ x = b := fun hx => by simpa using hx
    rw [natsI_cons, plRun, rdI_at (by omega), Option.bind_some, rdI_at (by omega), Option.bind_some, Int.toNat_natCast]
    rcases hc with ⟨h0, hu⟩ | ⟨h0, u, hu, hup, hub, hun, hou⟩
    · rw [if_pos hu]
      subst h0
      have hp0 : pre = [] := by
        cases pre with
        | nil => rfl
        | cons x p =>
          exfalso
          have hx := h.at (pre := []) (b := x) (post := p ++ 0 :: rest) (by rw [e]; simp)
          rcases hx.2.2.2.2 with ⟨q, _⟩ | ⟨_, u, _, q, _⟩
          · exact hx.2.2.2.1 (by rw [q]; simp)
          · cases q
      subst hp0
      have hz := hm.z rfl
      have hk0 := hm.k 0 hb
      rw [if_pos hbO] at hk0
      have hO : O = 0 :: rest := by simpa using e
      have hs0 : sumK up many O 0 = sumK up many rest 0 := by rw [hO, sumK_cons, hu, if_neg (by decide)]; omega
      have hP0 : (place.set 0 0).getD 0 0 = 0 := by rw [getD_set_eq, if_pos ⟨rfl, by omega⟩]
      have hQ0 : (past.set 0 1).getD 0 0 = 1 := by rw [getD_set_eq, if_pos ⟨rfl, by omega⟩]
      have hone : ∀ {x : Nat}, x ∈ [] ++ [0] → x = 0 := fun hx => by simpa using hx
      refine pl_ok h hm rest ([] ++ [0]) _ _ e2 ⟨by simpa using hlp, by simpa using hlq, fun c hcl hcn => ?_, fun a ha => ?_, fun a ha => ?_, fun a ha => ?_, fun x hx y hy _ _ => ?_, fun x hx y hy _ => ?_, fun a ha y hy h1 h2 => ?_, fun a ha v hv hne => ?_, fun a ha x hx z _ _ _ _ => ?_⟩
      · have : c ≠ 0 := fun e => hcn (by simp [e])
        rw [getD_set_eq, if_neg (by omega)]; exact hi.un c hcl (by simp)
      · rw [hone ha, hP0, hQ0]; omega
      · rw [hone ha, hP0, hQ0]; omega
      · rw [hone ha, hP0]; omega
      · rw [hone hx, hone hy]; exact OvD.refl hr
      · rw [hone hx, hone hy]; omega
      · rw [hone ha, hone hy, hP0, hQ0] at h1; omega
      · rw [hone ha, hone hv] at hne; exact absurd rfl hne
      · rw [hone ha, hone hx]; exact OvD.refl hr
    · have hpu := hi.p0 u hup
      have hcu := hi.cap u hup
      have htu := hi.top u hup
      rw [sumK_cons, if_pos hu] at hcu
      have hsu : 0 ≤ sumK up many rest u := sumL_nonneg fun c _ => hm.nn c
      rw [if_neg (by omega), hu, rdI_at (by omega), Option.bind_some, rdI_at (by omega), Option.bind_some, if_pos (by unfold near; omega), Int.toNat_natCast]
      obtain ⟨P, hP⟩ : ∃ P, P = (place.set b 0).set b (past.getD u 0) := ⟨_, rfl⟩
      obtain ⟨Q, hQ⟩ : ∃ Q, Q = (past.set u (past.getD u 0 + many.getD b 0)).set b (past.getD u 0 + 1) := ⟨_, rfl⟩
      rw [← hP, ← hQ]
      have hPb : P.getD b 0 = past.getD u 0 := by rw [hP, getD_set_eq, if_pos ⟨rfl, by simp; omega⟩]
      have hPo : ∀ c, c ≠ b → P.getD c 0 = place.getD c 0 := fun c hc => by rw [hP, getD_set_eq, if_neg (by omega), getD_set_eq, if_neg (by omega)]
      have hQb : Q.getD b 0 = past.getD u 0 + 1 := by rw [hQ, getD_set_eq, if_pos ⟨rfl, by simp; omega⟩]
      have hQu : Q.getD u 0 = past.getD u 0 + many.getD b 0 := by rw [hQ, getD_set_eq, if_neg (by omega), getD_set_eq, if_pos ⟨rfl, by omega⟩]
      have hQo : ∀ c, c ≠ b → c ≠ u → Q.getD c 0 = past.getD c 0 := fun c h1 h2 => by rw [hQ, getD_set_eq, if_neg (by omega), getD_set_eq, if_neg (by omega)]
      have hPp : ∀ c ∈ pre, P.getD c 0 = place.getD c 0 := fun c hc => hPo c (fun e => hnp (e ▸ hc))
      -- the free part of what was laid gets no larger
      have hQp : ∀ c ∈ pre, past.getD c 0 ≤ Q.getD c 0 := fun c hc => by
        have hcb : c ≠ b := fun e => hnp (e ▸ hc)
        by_cases ec : c = u
        · subst ec; rw [hQu]; omega
        · rw [hQo c hcb ec]; omega
      have hubO : ∀ x, x ≠ b → (OvD g x b ↔ OvD g x u) := fun x hx => ovd_up h.u hr h0 hu hx
      refine pl_ok h hm rest (pre ++ [b]) P Q e2 ⟨by rw [hP]; simpa using hlp, by rw [hQ]; simpa using hlq, fun c hcl hcn => ?_, fun a ha => ?_, fun a ha => ?_, fun a ha => ?_, fun x hx y hy h1 h2 => ?_, fun x hx y hy ho => ?_, fun a ha y hy h1 h2 => ?_, fun a ha v hv hne z z1 z2 z3 z4 => ?_, fun a ha x hx z z1 z2 z3 z4 => ?_⟩
      · have h1 : c ≠ b := fun e => hcn (by simp [e])
        have h2 : c ∉ pre := fun hh => hcn (by simp [hh])
        rw [hPo c h1]; exact hi.un c hcl h2
      · rcases hmem ha with ha1 | rfl
        · have := hi.p0 a ha1
          have := hQp a ha1
          rw [hPp a ha1]; omega
        · rw [hPb, hQb]; omega
      · rcases hmem ha with ha1 | rfl
        · have hab : a ≠ b := fun e => hnp (e ▸ ha1)
          have hca := hi.cap a ha1
          rw [sumK_cons] at hca
          by_cases ea : a = u
          · subst ea
            rw [hQu, hPp a ha1]
            rw [if_pos hu] at hca
            omega
          · rw [hQo a hab ea, hPp a ha1]
            rw [hu, if_neg (show ¬ (u : Int) = (a : Int) by omega)] at hca
            omega
        · rw [hQb, hPb]
          have hka := hm.k a hb
          rw [if_pos hbO] at hka
          -- its kids are all behind it
          have : sumK up many O a = sumK up many rest a := by
            unfold sumK
            congr 1
            unfold kidsOf
            rw [e, List.filter_append, List.filter_cons, if_neg (by rw [decide_eq_true_eq, hu]; omega)]
            have : pre.filter (fun k => decide (up.getD k 0 = (a : Int))) = [] := by
              rw [List.filter_eq_nil_iff]
              intro k hk hd
              have hd : up.getD k 0 = (a : Int) := of_decide_eq_true hd
              obtain ⟨l1, l2, e3⟩ := List.append_of_mem hk
              obtain ⟨-, -, -, -, hq⟩ := h.at (pre := l1) (b := k) (post := l2 ++ a :: rest) (by rw [e, e3]; simp)
              rcases hq with ⟨_, q⟩ | ⟨_, v, w1, w2, _⟩
              · omega
              · have : v = a := by omega
                subst this
                exact hnp (by rw [e3]; exact List.mem_append_left _ w2)
            rw [this, List.nil_append]
          omega
      · rcases hmem ha with ha1 | rfl
        · rw [hPp a ha1]; exact hi.top a ha1
        · rw [hPb]; omega
      · rcases hmem hx with hx1 | rfl
        · rcases hmem hy with hy1 | rfl
          · rw [hPp x hx1, hPp y hy1] at h1
            rw [hPp x hx1, hPp y hy1] at h2
            exact hi.p1 x hx1 y hy1 h1 h2
          · rw [hPp x hx1, hPb] at h1
            rw [hPp x hx1, hPb] at h2
            have hxy : x ≠ y := fun e => hnp (e ▸ hx1)
            exact (hubO x hxy).2 (hi.fi u hup x hx1 (past.getD u 0) (Int.le_refl _) (by omega) h1 h2)
        · rcases hmem hy with hy1 | rfl
          · rw [hPb, hPp y hy1] at h1
            rw [hPb, hPp y hy1] at h2
            exact (hi.fp u hup y hy1 h1 (by omega)).elim
          · exact OvD.refl hr
      · rcases hmem hx with hx1 | rfl
        · rcases hmem hy with hy1 | rfl
          · rw [hPp x hx1, hPp y hy1]; exact hi.nst x hx1 y hy1 ho
          · have hxy : x ≠ y := fun e => hnp (e ▸ hx1)
            have := hi.nst x hx1 u hup ((hubO x hxy).1 ho)
            rw [hPp x hx1, hPb]; omega
        · rcases hmem hy with hy1 | rfl
          · exfalso
            have hxy : x ≠ y := fun e => hnp (e ▸ hy1)
            obtain ⟨l1, l2, e3⟩ := List.append_of_mem hy1
            have := h.o.ahead _ l1 y (l2 ++ x :: rest) rfl (by rw [e, e3]; simp) x ho hxy
            exact hnp (by rw [e3]; exact List.mem_append_left _ this)
          · omega
      · rcases hmem ha with ha1 | rfl
        · have hq := hQp a ha1
          rcases hmem hy with hy1 | rfl
          · rw [hPp y hy1] at h1
            rw [hPp a ha1, hPp y hy1] at h2
            exact hi.fp a ha1 y hy1 (by omega) h2
          · rw [hPb] at h1
            rw [hPp a ha1, hPb] at h2
            by_cases ea : a = u
            · subst ea; rw [hQu] at h1; omega
            · exact hi.ff a ha1 u hup ea (past.getD u 0) (by omega) h2 (Int.le_refl _) (by omega)
        · rcases hmem hy with hy1 | rfl
          · rw [hQb, hPp y hy1] at h1
            rw [hPb, hPp y hy1] at h2
            exact hi.fp u hup y hy1 (by omega) (by omega)
          · rw [hQb, hPb] at h1; omega
      · rcases hmem ha with ha1 | rfl
        · have hqa := hQp a ha1
          rw [hPp a ha1] at z2
          rcases hmem hv with hv1 | rfl
          · have hqv := hQp v hv1
            rw [hPp v hv1] at z4
            exact hi.ff a ha1 v hv1 hne z (by omega) z2 (by omega) z4
          · rw [hQb] at z3
            rw [hPb] at z4
            by_cases ea : a = u
            · subst ea; rw [hQu] at z1; omega
            · exact hi.ff a ha1 u hup ea z (by omega) z2 (by omega) (by omega)
        · rw [hQb] at z1
          rw [hPb] at z2
          rcases hmem hv with hv1 | rfl
          · have hqv := hQp v hv1
            rw [hPp v hv1] at z4
            by_cases ev : v = u
            · subst ev; rw [hQu] at z3; omega
            · exact hi.ff v hv1 u hup ev z (by omega) z4 (by omega) (by omega)
          · exact hne rfl
      · rcases hmem ha with ha1 | rfl
        · have hqa := hQp a ha1
          rw [hPp a ha1] at z2
          rcases hmem hx with hx1 | rfl
          · rw [hPp x hx1] at z3 z4
            exact hi.fi a ha1 x hx1 z (by omega) z2 z3 z4
          · rw [hPb] at z3 z4
            exfalso
            by_cases ea : a = u
            · subst ea; rw [hQu] at z1; omega
            · exact hi.ff a ha1 u hup ea z (by omega) z2 z3 (by omega)
        · rw [hQb] at z1
          rw [hPb] at z2
          rcases hmem hx with hx1 | rfl
          · rw [hPp x hx1] at z3 z4
            have hxa : x ≠ a := fun e => hnp (e ▸ hx1)
            exact (hubO x hxa).2 (hi.fi u hup x hx1 z (by omega) (by omega) z3 z4)
          · exact OvD.refl hr
theorem pl_start {g : List GB} {up many : List Int} {N : Nat} {O : List Nat} : PlI g up many N [] O (List.replicate g.length (-1)) (List.replicate g.length 0) where
  lp := by simp
  lq := by simp
  un := fun c hc _ => by simp [List.getD, hc]
  p0 := fun a ha => by cases ha
  cap := fun a ha => by cases ha
  top := fun a ha => by cases ha
  p1 := fun a ha => by cases ha
  nst := fun a ha => by cases ha
  fp := fun a ha => by cases ha
  ff := fun a ha => by cases ha
  fi := fun a ha => by cases ha
end Go.Proofs.Ytoplllebaagnnaa
