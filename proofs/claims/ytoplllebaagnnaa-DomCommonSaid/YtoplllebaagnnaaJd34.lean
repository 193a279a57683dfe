/-
  Blocks on all ways, over plain data: where all lead.
  Blocks on all ways, over plain data: the tree.
-/
import Derived.Test.YtoplllebaagnnaaJd33
namespace Go.Proofs.Ytoplllebaagnnaa
set_option linter.unusedVariables false
set_option linter.unusedSimpArgs false

section
variable {g : List GB} {up many place past : List Int} {O : List Nat}
/-- The tree's numbers at the end. -/
structure PlO (g : List GB) (up many : List Int) (O : List Nat) (place past : List Int) : Prop where
  h : OrU g up O
  m : MnI g up [] O many
  p : PlI g up many O.length O [] place past
theorem PlO.one (h : PlO g up many O place past) {a : Nat} (ha : a ∈ O) : 1 ≤ many.getD a 0 := by
  have := h.m.k a (h.h.o.lt a ha)
  rw [if_pos ha] at this
  have h2 : 0 ≤ sumK up many O a := sumL_nonneg fun c _ => h.m.nn c
  omega
theorem PlO.pst (h : PlO g up many O place past) {a : Nat} (ha : a ∈ O) : past.getD a 0 = place.getD a 0 + many.getD a 0 := by
  have := h.p.cap a ha
  have e : sumK up many [] a = 0 := rfl
  omega
theorem PlO.rng (h : PlO g up many O place past) {a : Nat} (ha : a ∈ O) : 0 ≤ place.getD a 0 ∧ place.getD a 0 < O.length ∧ past.getD a 0 ≤ O.length ∧ place.getD a 0 < past.getD a 0 := by
  have h1 := h.p.p0 a ha
  have h2 := h.p.top a ha
  have h3 := h.one ha
  have h4 := h.pst ha
  omega
theorem PlO.over (h : PlO g up many O place past) {a b : Nat} (ha : a ∈ O) (hb : b ∈ O) : (place.getD a 0 ≤ place.getD b 0 ∧ place.getD b 0 < past.getD a 0) ↔ OvD g a b := by
  rw [h.pst ha]
  constructor
  · rintro ⟨h1, h2⟩; exact h.p.p1 a ha b hb h1 h2
  · intro ho
    have := h.p.nst a ha b hb ho
    have := h.one hb
    omega
theorem PlO.inj (h : PlO g up many O place past) {a b : Nat} (ha : a ∈ O) (hb : b ∈ O) (e : place.getD a 0 = place.getD b 0) : a = b := by
  have h1 := h.rng ha
  have h2 := h.rng hb
  exact h.h.o.anti ((h.over ha hb).1 (by omega)) ((h.over hb ha).1 (by omega))
theorem PlO.met (h : PlO g up many O place past) {j : Nat} (hj : j < O.length) : ∃ c ∈ O, place.getD c 0 = j := by
  have hm := all_met (l := O.map fun c => (place.getD c 0).toNat) (n := O.length) (by
    refine List.pairwise_map.2 (h.h.o.nd.imp_of_mem fun {a b} ha hb hab e => hab (h.inj ha hb ?_))
    have := h.rng ha
    have := h.rng hb
    omega) (fun x hx => by
    obtain ⟨c, hc, rfl⟩ := List.mem_map.1 hx
    have := h.rng hc
    omega) (by simp) hj
  obtain ⟨c, hc, e⟩ := List.mem_map.1 hm
  have := h.rng hc
  exact ⟨c, hc, by omega⟩
theorem rw_ok (h : PlO g up many O place past) : ∀ (rest pre : List Nat) (row : List Int), O = pre ++ rest → row.length = O.length → (∀ c ∈ pre, row.getD (place.getD c 0).toNat 0 = c) → (∀ j, 0 ≤ row.getD j 0 ∧ row.getD j 0 < g.length) →
    ∃ row', rwRun place (natsI rest) row = some row' ∧ row'.length = O.length ∧ (∀ c ∈ O, row'.getD (place.getD c 0).toNat 0 = c) ∧ ∀ j, 0 ≤ row'.getD j 0 ∧ row'.getD j 0 < g.length
  | [], pre, row, e, hl, h1, h2 => ⟨row, rfl, hl, by rw [e, List.append_nil]; exact h1, h2⟩
  | b :: rest, pre, row, e, hl, h1, h2 => by
    have hb : b ∈ O := by rw [e]; simp
    have hbl := h.h.o.lt b hb
    have hlp := h.p.lp
    have hr := h.rng hb
    rw [natsI_cons, rwRun, rdI_at (by omega), Option.bind_some]
    have hw : wrI row (place.getD b 0) (b : Int) = some (row.set (place.getD b 0).toNat (b : Int)) := by unfold wrI; rw [if_pos (by omega)]
    rw [hw, Option.bind_some]
    refine rw_ok h rest (pre ++ [b]) _ (by rw [e]; simp) (by simpa using hl) (fun c hc => ?_) (fun j => ?_)
    · rw [getD_set_eq]
      rcases List.mem_append.1 hc with hc | hc
      · have hcO : c ∈ O := by rw [e]; exact List.mem_append_left _ hc
        have hcb : c ≠ b := fun e2 => by
          have hnd := h.h.o.nd
          rw [e] at hnd
          exact (List.nodup_append.1 hnd).2.2 c hc b (by simp) e2
        have := h.rng hcO
        rw [if_neg (fun q => hcb (h.inj hcO hb (by omega)))]
        exact h1 c hc
      · simp at hc
        subst hc
        rw [if_pos ⟨rfl, by omega⟩]
    · rw [getD_set_eq]
      split
      · omega
      · exact h2 j
end

def catG (g : List GB) (L : List Int) : List Int := L.flatMap fun b => tosG g b.toNat
theorem catG_app (g : List GB) (L M : List Int) : catG g (L ++ M) = catG g L ++ catG g M := by simp [catG]
theorem catG_len {g : List GB} (h2 : ∀ b, (tosG g b).length ≤ 2) : ∀ L : List Int, (catG g L).length ≤ 2 * L.length
  | [] => by simp [catG]
  | b :: L => by
    have := catG_len h2 L
    have := h2 b.toNat
    have e : catG g (b :: L) = tosG g b.toNat ++ catG g L := by simp [catG]
    rw [e, List.length_append, List.length_cons]; omega
theorem to_ok {g : List GB} (h2 : ∀ b, (tosG g b).length ≤ 2) {row : List Int} (hrl : row.length ≤ 1000) (hr : ∀ j, 0 ≤ row.getD j 0 ∧ row.getD j 0 < g.length) : ∀ (rest pre st : List Int), row = pre ++ rest → st.length = pre.length + 1 → (∀ j, j ≤ pre.length → st.getD j 0 = ((catG g (row.take j)).length : Int)) →
    ∃ st', toRun g rest (catG g pre) st = some (catG g row, st') ∧ st'.length = row.length + 1 ∧ ∀ j, j ≤ row.length → st'.getD j 0 = ((catG g (row.take j)).length : Int)
  | [], pre, st, e, hl, hs => by
    rw [List.append_nil] at e
    subst e
    exact ⟨st, rfl, hl, hs⟩
  | b :: rest, pre, st, e, hl, hs => by
    have hb := hr pre.length
    have eb : row.getD pre.length 0 = b := by rw [e]; simp [List.getD]
    rw [eb] at hb
    have hlen : row.length = pre.length + 1 + rest.length := by rw [e]; simp; omega
    have ec : catG g pre ++ tosG g b.toNat = catG g (pre ++ [b]) := by rw [catG_app]; simp [catG]
    have hcl := catG_len h2 (pre ++ [b])
    rw [List.length_append, List.length_singleton] at hcl
    rw [toRun, ec, if_pos ⟨hb.1, hb.2, by omega, by omega⟩]
    refine to_ok h2 hrl hr rest (pre ++ [b]) _ (by rw [e]; simp) (by simp [hl]) (fun j hj => ?_)
    rw [List.length_append, List.length_singleton] at hj
    rw [getD_snoc]
    by_cases hj1 : j < st.length
    · rw [if_pos hj1]; exact hs j (by omega)
    · obtain rfl : j = pre.length + 1 := by omega
      rw [if_neg hj1, if_pos hl.symm]
      have : row.take (pre.length + 1) = pre ++ [b] := by rw [e, show pre ++ b :: rest = (pre ++ [b]) ++ rest by simp, List.take_left' (by simp)]
      rw [this]
theorem mem_mid {A B C : List Int} {t : Int} : (∃ k, A.length ≤ k ∧ k < A.length + B.length ∧ (A ++ B ++ C).getD k 0 = t) ↔ t ∈ B := by
  constructor
  · rintro ⟨k, h1, h2, h3⟩
    have : (A ++ B ++ C).getD k 0 = B.getD (k - A.length) 0 := by
      simp only [List.getD]
      rw [List.append_assoc, List.getElem?_append_right h1, List.getElem?_append_left (by omega)]
    rw [this] at h3
    rw [← h3]
    have hk : k - A.length < B.length := by omega
    simp [List.getD, hk]
  · intro h
    obtain ⟨k, hk, e⟩ := List.getElem_of_mem h
    refine ⟨A.length + k, by omega, by omega, ?_⟩
    simp only [List.getD]
    rw [List.append_assoc, List.getElem?_append_right (by omega), List.getElem?_append_left (by omega), show A.length + k - A.length = k by omega, List.getElem?_eq_getElem hk, e]
    rfl
theorem mem_piece {L : List Int} {i d : Nat} (h : i + d ≤ L.length) {x : Int} : x ∈ (L.drop i).take d ↔ ∃ r, i ≤ r ∧ r < i + d ∧ L.getD r 0 = x := by
  rw [List.mem_iff_getElem?]
  constructor
  · rintro ⟨k, hk⟩
    rw [List.getElem?_take, List.getElem?_drop] at hk
    split at hk
    · exact ⟨i + k, by omega, by omega, by simp [List.getD, hk]⟩
    · cases hk
  · rintro ⟨r, h1, h2, h3⟩
    refine ⟨r - i, ?_⟩
    have hr : r < L.length := by omega
    rw [List.getElem?_take, if_pos (by omega), List.getElem?_drop, show i + (r - i) = r by omega, List.getElem?_eq_getElem hr]
    simp [List.getD, hr] at h3
    rw [h3]
/-- What is found in a piece of where all lead. -/
theorem piece_to {g : List GB} {row : List Int} {i j : Nat} (hij : i ≤ j) (hj : j ≤ row.length) {t : Int} : (∃ k, (catG g (row.take i)).length ≤ k ∧ k < (catG g (row.take j)).length ∧ (catG g row).getD k 0 = t) ↔ ∃ r, i ≤ r ∧ r < j ∧ t ∈ tosG g (row.getD r 0).toNat := by
  obtain ⟨d, rfl⟩ : ∃ d, j = i + d := ⟨j - i, by omega⟩
  have e1 : row.take (i + d) = row.take i ++ (row.drop i).take d := List.take_add
  have e2 : row = row.take i ++ (row.drop i).take d ++ row.drop (i + d) := by rw [← e1, List.take_append_drop]
  have e3 : catG g row = catG g (row.take i) ++ catG g ((row.drop i).take d) ++ catG g (row.drop (i + d)) := by rw [← catG_app, ← catG_app, ← e2]
  rw [e1, catG_app, List.length_append, e3, mem_mid]
  unfold catG
  rw [List.mem_flatMap]
  constructor
  · rintro ⟨b, hb, ht⟩
    obtain ⟨r, h1, h2, h3⟩ := (mem_piece hj).1 hb
    exact ⟨r, h1, h2, by rw [h3]; exact ht⟩
  · rintro ⟨r, h1, h2, h3⟩
    exact ⟨_, (mem_piece hj).2 ⟨r, h1, h2, rfl⟩, h3⟩

/-- How deep the block is to which one leads. -/
def dpG (deep to_ : List Int) (k : Nat) : Int := deep.getD (to_.getD k 0).toNat 0
def SkV (deep to_ skip : List Int) (i : Nat) : Prop := ∀ j, i ≤ j → j < to_.length → ∃ nx : Nat, skip.getD j 0 = nx ∧ j < nx ∧ nx ≤ to_.length ∧ ∀ k, j < k → k < nx → dpG deep to_ j ≤ dpG deep to_ k
theorem skNext_ok {deep to_ skip : List Int} (hd : ∀ t ∈ to_, 0 ≤ t ∧ t < deep.length) (hl : skip.length = to_.length) {at_ : Nat} (ha : at_ < to_.length) (hv : SkV deep to_ skip (at_ + 1)) : ∀ (kf next : Nat), at_ < next → next ≤ to_.length → to_.length - next < kf → (∀ k, at_ < k → k < next → dpG deep to_ at_ ≤ dpG deep to_ k) →
    ∃ nx : Nat, skNext deep to_ skip (at_ : Int) kf (next : Int) = some (nx : Int) ∧ at_ < nx ∧ nx ≤ to_.length ∧ ∀ k, at_ < k → k < nx → dpG deep to_ at_ ≤ dpG deep to_ k
  | 0, next, _, _, h, _ => by omega
  | kf + 1, next, h1, h2, h3, h4 => by
    have hrd : ∀ k, k < to_.length → rdI to_ (k : Int) = some (to_.getD k 0) ∧ rdI deep (to_.getD k 0) = some (dpG deep to_ k) := fun k hk => by
      refine ⟨rdI_at hk, ?_⟩
      have hm : to_.getD k 0 ∈ to_ := by simp [List.getD, hk]
      have := hd _ hm
      unfold rdI
      rw [if_pos this]; rfl
    rw [skNext]
    by_cases hn : next < to_.length
    · rw [if_pos (by omega), (hrd next hn).1, Option.bind_some, (hrd next hn).2, Option.bind_some, (hrd at_ ha).1, Option.bind_some, (hrd at_ ha).2, Option.bind_some]
      by_cases hge : dpG deep to_ next ≥ dpG deep to_ at_
      · obtain ⟨nx, v1, v2, v3, v4⟩ := hv next (by omega) hn
        rw [if_pos hge, rdI_at (by omega), Option.bind_some, v1]
        refine skNext_ok hd hl ha hv kf nx (by omega) v3 (by omega) (fun k k1 k2 => ?_)
        by_cases e : k < next
        · exact h4 k k1 e
        · by_cases e2 : k = next
          · rw [e2]; exact hge
          · have := v4 k (by omega) k2; omega
      · rw [if_neg hge]
        exact ⟨next, rfl, h1, h2, h4⟩
    · rw [if_neg (by omega)]
      exact ⟨next, rfl, h1, h2, h4⟩
theorem sk_ok {deep to_ : List Int} (hd : ∀ t ∈ to_, 0 ≤ t ∧ t < deep.length) : ∀ (i : Nat) (skip : List Int), i ≤ to_.length → skip.length = to_.length → SkV deep to_ skip i → ∃ skip', skRun deep to_ (to_.length + 1) i skip = some skip' ∧ skip'.length = to_.length ∧ SkV deep to_ skip' 0
  | 0, skip, _, hl, hv => ⟨skip, rfl, hl, hv⟩
  | i + 1, skip, hi, hl, hv => by
    obtain ⟨nx, n1, n2, n3, n4⟩ := skNext_ok hd hl (at_ := i) (by omega) hv (to_.length + 1) (i + 1) (by omega) hi (by omega) (fun k k1 k2 => by omega)
    rw [skRun, n1, Option.bind_some]
    have hw : wrI skip (i : Int) (nx : Int) = some (skip.set i (nx : Int)) := by unfold wrI; rw [if_pos (by omega), Int.toNat_natCast]
    rw [hw, Option.bind_some]
    refine sk_ok hd i _ (by omega) (by simpa using hl) (fun j hj hjl => ?_)
    by_cases e : j = i
    · subst e
      exact ⟨nx, by rw [getD_set_eq, if_pos ⟨rfl, by omega⟩], n2, n3, n4⟩
    · obtain ⟨nx', v1, v2⟩ := hv j (by omega) hjl
      exact ⟨nx', by rw [getD_set_eq, if_neg (by omega)]; exact v1, v2⟩

theorem fr_ok2 {T : TrP} (hd : ∀ t ∈ T.to_, 0 ≤ t ∧ t < T.deep.length) (hl : T.skip.length = T.to_.length) (hv : SkV T.deep T.to_ T.skip 0) (hto : T.to_.length ≤ 2000) {b e : Nat} (hb : b < T.deep.length) (he : e ≤ T.to_.length) : ∀ (k at_ : Nat) (acc : List Nat), at_ ≤ T.to_.length → T.to_.length - at_ < k → acc.length ≤ at_ →
    ∃ xs, frP T (b : Int) (e : Int) k (at_ : Int) acc = some xs ∧ ∀ y, y ∈ xs ↔ (y ∈ acc ∨ ∃ k, at_ ≤ k ∧ k < e ∧ T.to_.getD k 0 = (y : Int) ∧ dpG T.deep T.to_ k ≤ T.deep.getD b 0)
  | 0, at_, acc, _, h, _ => by omega
  | k + 1, at_, acc, h1, h2, h3 => by
    rw [frP]
    by_cases hlt : at_ < e
    · have hm : T.to_.getD at_ 0 ∈ T.to_ := by have : at_ < T.to_.length := by omega
                                               simp [List.getD, this]
      have hin := hd _ hm
      have hr2 : rdI T.deep (T.to_.getD at_ 0) = some (dpG T.deep T.to_ at_) := by unfold rdI; rw [if_pos hin]; rfl
      rw [if_pos (by omega), rdI_at (by omega), Option.bind_some, hr2, Option.bind_some, rdI_at hb, Option.bind_some]
      by_cases hgt : dpG T.deep T.to_ at_ > T.deep.getD b 0
      · obtain ⟨nx, v1, v2, v3, v4⟩ := hv at_ (by omega) (by omega)
        rw [if_pos hgt, rdI_at (by omega), Option.bind_some, v1]
        obtain ⟨xs, x1, x2⟩ := fr_ok2 hd hl hv hto hb he k nx acc v3 (by omega) (by omega)
        refine ⟨xs, x1, fun y => ?_⟩
        rw [x2 y]
        constructor
        · rintro (h | ⟨j, j1, j2, j3, j4⟩)
          · exact .inl h
          · exact .inr ⟨j, by omega, j2, j3, j4⟩
        · rintro (h | ⟨j, j1, j2, j3, j4⟩)
          · exact .inl h
          · right
            refine ⟨j, ?_, j2, j3, j4⟩
            apply Nat.le_of_not_lt
            intro hjn
            by_cases e2 : j = at_
            · subst e2; omega
            · have := v4 j (by omega) hjn; omega
      · rw [if_neg hgt, if_pos (by omega)]
        obtain ⟨xs, x1, x2⟩ := fr_ok2 hd hl hv hto hb he k (at_ + 1) (acc ++ [(T.to_.getD at_ 0).toNat]) (by omega) (by omega) (by rw [List.length_append, List.length_singleton]; omega)
        refine ⟨xs, by rw [← x1]; rfl, fun y => ?_⟩
        rw [x2 y]
        constructor
        · rintro (h | ⟨j, j1, j2, j3, j4⟩)
          · rcases List.mem_append.1 h with h | h
            · exact .inl h
            · simp only [List.mem_singleton] at h
              exact .inr ⟨at_, Nat.le_refl _, hlt, by omega, by omega⟩
          · exact .inr ⟨j, by omega, j2, j3, j4⟩
        · rintro (h | ⟨j, j1, j2, j3, j4⟩)
          · exact .inl (List.mem_append_left _ h)
          · by_cases e2 : j = at_
            · subst e2
              exact .inl (List.mem_append_right _ (by rw [j3]; simp))
            · exact .inr ⟨j, by omega, j2, j3, j4⟩
    · rw [if_neg (by omega)]
      refine ⟨acc, rfl, fun y => ⟨.inl, ?_⟩⟩
      rintro (h | ⟨j, j1, j2, _⟩)
      · exact h
      · omega
end Go.Proofs.Ytoplllebaagnnaa
namespace Go.Proofs.Ytoplllebaagnnaa
set_option linter.unusedVariables false
set_option linter.unusedSimpArgs false

/-- What the tree over plain data tells. -/
structure TrOk (g : List GB) (T : TrP) : Prop where
  eq : TrEq g T
  ord : OrU g T.up (orderP g)
  lp : T.place.length = g.length
  ld : T.deep.length = g.length
  lk : T.kids.length = g.length
  rch : ∀ b : Int, reachedT T b = true ↔ ∃ c : Nat, b = c ∧ RR g 0 c
  ovr : ∀ a b : Int, overT T a b = true ↔ ∃ x y : Nat, a = x ∧ b = y ∧ OvD g x y
  kid : ∀ a, a < g.length → T.kids.getD a [] = natsI (kidsOf T.up (orderP g) a)
  dpt : ∀ x y, OvD g x y → x ≠ y → T.deep.getD x 0 < T.deep.getD y 0
  nn : ∀ x, RR g 0 x → 0 ≤ T.deep.getD x 0
  fro : ∀ b, RR g 0 b → ∃ (p0 p1 a0 e0 : Int) (k0 : Nat) (xs : List Nat), rdI T.past b = some p1 ∧ rdI T.start p1 = some e0 ∧ rdI T.place b = some p0 ∧ rdI T.start p0 = some a0 ∧ e0 ≤ 1048576 ∧ frP T b e0 k0 a0 [] = some xs ∧
    ∀ y : Nat, y ∈ xs ↔ ((∃ c, OvD g b c ∧ (y : Int) ∈ tosG g c) ∧ ¬ (b ≠ y ∧ OvD g b y))

theorem GrI.deeper {g : List GB} {up deep : List Int} {kids : List (List Int)} {O : List Nat} (h : OrU g up O) (hi : GrI g up O kids deep) : ∀ (n : Nat) (x y : Nat), (deep.getD y 0).toNat < n → OvD g x y → x ≠ y → deep.getD x 0 < deep.getD y 0 := by
  intro n
  induction n with
  | zero => intro x y h; omega
  | succ n ih =>
    intro x y hn ho hxy
    have hyO := (h.o.mem y).2 ho.2.1
    have hy0 : y ≠ 0 := fun e => by subst e; exact hxy (ovd_zero ho)
    obtain ⟨u, u1, u2⟩ := hi.d y hyO hy0
    have hu := (ovd_up h.u ho.2.1 hy0 u1 hxy).1 ho
    have := hi.bd y hyO
    have := hi.bd u ((h.o.mem u).2 hu.2.1)
    by_cases e : x = u
    · subst e; omega
    · have := ih x u (by omega) hu e; omega
theorem GrI.lin {g : List GB} {up deep : List Int} {kids : List (List Int)} {O : List Nat} (h : OrU g up O) (hi : GrI g up O kids deep) : ∀ (n : Nat) (x y c : Nat), (deep.getD c 0).toNat < n → OvD g x c → OvD g y c → OvD g x y ∨ OvD g y x := by
  intro n
  induction n with
  | zero => intro x y c h; omega
  | succ n ih =>
    intro x y c hn hx hy
    by_cases e1 : x = c
    · subst e1; exact .inr hy
    · by_cases e2 : y = c
      · subst e2; exact .inl hx
      · have hcO := (h.o.mem c).2 hx.2.1
        have hc0 : c ≠ 0 := fun e => by subst e; exact e1 (ovd_zero hx)
        obtain ⟨u, u1, u2⟩ := hi.d c hcO hc0
        have hxu := (ovd_up h.u hx.2.1 hc0 u1 e1).1 hx
        have hyu := (ovd_up h.u hx.2.1 hc0 u1 e2).1 hy
        have := hi.bd u ((h.o.mem u).2 hxu.2.1)
        exact ih x y u (by omega) hxu hyu
theorem tree_ok {g : List GB} (hg : tosOk g) (h2 : ∀ b, (tosG g b).length ≤ 2) (hn : g.length ≤ 1000) (hp : 0 < g.length) (hO : OrdOk g (orderP g)) : ∃ T, TrOk g T := by
  obtain ⟨ke, k0, m, en, bk, sE, upE, up, a1, a2, a3, a4, a5, a6, a7, a8, a9, a10, a11, a12, a13, hup⟩ := ups_ok hg h2 hn hp
  obtain ⟨O, hOe⟩ : ∃ O, O = orderP g := ⟨_, rfl⟩
  rw [← hOe] at hO
  have hz : 0 ∈ O := (hO.mem 0).2 FR.here
  have H : OrU g up O := ⟨hO, hup, hn, hz⟩
  obtain ⟨kids, deep, b1, hgr⟩ := gr_ok H O [] _ _ (by simp) gr_start
  obtain ⟨many, b2, hmn⟩ := mn_ok H O.length O [] _ rfl (by simp) (mn_start H)
  obtain ⟨place, past, b3, hpl⟩ := pl_ok H hmn O [] _ _ (by simp) pl_start
  have P : PlO g up many O place past := ⟨H, hmn, hpl⟩
  have hlen := H.len
  have hrep : ∀ (n j : Nat), (List.replicate n (0 : Int)).getD j 0 = 0 := fun n j => by simp only [List.getD, List.getElem?_replicate]; split <;> rfl
  obtain ⟨row, b4, r1, r2, r3⟩ := rw_ok P O [] (List.replicate O.length 0) (by simp) (by simp) (fun c hc => by cases hc) (fun j => by rw [hrep]; omega)
  obtain ⟨start, b5, t1, t2⟩ := to_ok h2 (row := row) (by omega) r3 row [] [0] (by simp) (by simp) (fun j hj => by
    obtain rfl : j = 0 := by simp at hj; omega
    simp [catG])
  have hcat : catG g [] = [] := rfl
  rw [hcat] at b5
  have hcl := catG_len h2 row
  have hd : ∀ t ∈ catG g row, 0 ≤ t ∧ t < deep.length := fun t ht => by
    obtain ⟨b, _, hb⟩ := List.mem_flatMap.1 ht
    have := hg _ _ hb
    rw [hgr.ld]; exact this
  obtain ⟨skip, b6, s1, s2⟩ := sk_ok hd (catG g row).length (List.replicate (catG g row).length 0) (Nat.le_refl _) (by simp) (fun j h1 h2 => by omega)
  have hnl : (natsI O).length = O.length := by simp [natsI]
  have hO1 : 1 ≤ O.length := List.length_pos_of_mem hz
  refine ⟨⟨natsI O, up, kids, deep, place, past, catG g row, skip, start⟩, ?_, ?_, hpl.lp, hgr.ld, hgr.lk, ?_, ?_, ?_, ?_, ?_, ?_⟩
  · refine ⟨⟨ke, k0, (catG g row).length + 1, m, en, bk, sE, upE, many, row, a1, a2, a3, a4, a5, a6, a7, a8, a9, a10, a11, a12, a13, b1, b2, b3, by dsimp only; rw [hnl]; exact b4, b5, b6⟩, by dsimp only; rw [hOe]; rfl, by dsimp only; omega, by dsimp only; omega, hup.len, hp⟩
  · rw [← hOe]; exact H
  · intro b
    unfold reachedT
    dsimp only
    rw [Bool.and_eq_true, Bool.and_eq_true, decide_eq_true_eq, decide_eq_true_eq, bne_iff_ne, hpl.lp]
    constructor
    · rintro ⟨⟨q1, q2⟩, q3⟩
      refine ⟨b.toNat, by omega, (hO.mem _).1 (Classical.byContradiction fun hm => q3 (hpl.un b.toNat (by omega) hm))⟩
    · rintro ⟨c, rfl, hc⟩
      have hcO := (hO.mem c).2 hc
      have := P.rng hcO
      have := hO.lt c hcO
      rw [Int.toNat_natCast]
      omega
  · intro a b
    unfold overT reachedT
    dsimp only
    simp only [Bool.and_eq_true, decide_eq_true_eq, bne_iff_ne, hpl.lp]
    have hrc : ∀ c : Int, 0 ≤ c → c < g.length → place.getD c.toNat 0 ≠ -1 → c.toNat ∈ O := fun c q1 q2 q3 => Classical.byContradiction fun hm => q3 (hpl.un c.toNat (by omega) hm)
    constructor
    · rintro ⟨⟨⟨⟨⟨p1, p2⟩, p3⟩, ⟨q1, q2⟩, q3⟩, c1⟩, c2⟩
      exact ⟨a.toNat, b.toNat, by omega, by omega, (P.over (hrc a p1 p2 p3) (hrc b q1 q2 q3)).1 ⟨c1, c2⟩⟩
    · rintro ⟨x, y, rfl, rfl, ho⟩
      have hx := (hO.mem x).2 ho.1
      have hy := (hO.mem y).2 ho.2.1
      have := hO.lt x hx
      have := hO.lt y hy
      have := P.rng hx
      have := P.rng hy
      have := (P.over hx hy).2 ho
      simp only [Int.toNat_natCast]
      omega
  · rw [← hOe]; exact hgr.ks
  · intro x y ho hxy
    exact hgr.deeper H _ x y (Nat.lt_succ_self _) ho hxy
  · intro x hx
    exact (hgr.bd x ((hO.mem x).2 hx)).1
  · intro b hb
    have hbO := (hO.mem b).2 hb
    have hbl := hO.lt b hbO
    have hr := P.rng hbO
    have hlp := hpl.lp
    have hlq := hpl.lq
    obtain ⟨i, hi⟩ : ∃ i : Nat, place.getD b 0 = i := ⟨(place.getD b 0).toNat, by omega⟩
    obtain ⟨j, hj⟩ : ∃ j : Nat, past.getD b 0 = j := ⟨(past.getD b 0).toNat, by omega⟩
    have hle1 : (catG g (row.take j)).length ≤ (catG g row).length := by
      have : row = row.take j ++ row.drop j := (List.take_append_drop j row).symm
      have e2 : (catG g row).length = (catG g (row.take j ++ row.drop j)).length := by rw [← this]
      rw [e2, catG_app, List.length_append]; omega
    have hle2 : (catG g (row.take i)).length ≤ (catG g row).length := by
      have : row = row.take i ++ row.drop i := (List.take_append_drop i row).symm
      have e2 : (catG g row).length = (catG g (row.take i ++ row.drop i)).length := by rw [← this]
      rw [e2, catG_app, List.length_append]; omega
    obtain ⟨xs, x1, x2⟩ := fr_ok2 (T := ⟨natsI O, up, kids, deep, place, past, catG g row, skip, start⟩) hd s1 s2 (by dsimp only; omega) (b := b) (e := (catG g (row.take j)).length) (by dsimp only; rw [hgr.ld]; exact hbl) hle1 ((catG g row).length + 1) (catG g (row.take i)).length [] hle2 (by dsimp only; omega) (Nat.zero_le _)
    refine ⟨(i : Int), (j : Int), _, _, _, xs, by dsimp only; rw [rdI_at (by omega), hj], by dsimp only; rw [rdI_at (by omega), t2 j (by omega)], by dsimp only; rw [rdI_at (by omega), hi], by dsimp only; rw [rdI_at (by omega), t2 i (by omega)], by omega, x1, fun y => ?_⟩
    rw [x2 y]
    dsimp only
    -- rows between are those of what stands under b
    have hrow : ∀ (t : Int), (∃ r, i ≤ r ∧ r < j ∧ t ∈ tosG g (row.getD r 0).toNat) ↔ ∃ c, OvD g b c ∧ t ∈ tosG g c := fun t => by
      constructor
      · rintro ⟨r, q1, q2, q3⟩
        obtain ⟨c, hc, hcr⟩ := P.met (j := r) (by omega)
        have hrc := r2 c hc
        rw [hcr, Int.toNat_natCast] at hrc
        rw [hrc, Int.toNat_natCast] at q3
        exact ⟨c, (P.over hbO hc).1 (by omega), q3⟩
      · rintro ⟨c, q1, q2⟩
        have hc := (hO.mem c).2 q1.2.1
        have h3 := (P.over hbO hc).2 q1
        have h4 := P.rng hc
        have hrc := r2 c hc
        exact ⟨(place.getD c 0).toNat, by omega, by omega, by rw [hrc, Int.toNat_natCast]; exact q2⟩
    have hset : ∀ t : Int, (∃ k, (catG g (row.take i)).length ≤ k ∧ k < (catG g (row.take j)).length ∧ (catG g row).getD k 0 = t) ↔ ∃ c, OvD g b c ∧ t ∈ tosG g c := fun t => (piece_to (by omega) (by omega)).trans (hrow t)
    -- less deep, or not under b
    have hdeep : (∃ c, OvD g b c ∧ (y : Int) ∈ tosG g c) → (deep.getD y 0 ≤ deep.getD b 0 ↔ ¬ (b ≠ y ∧ OvD g b y)) := by
      rintro ⟨c, hbc, hyc⟩
      have hyr : RR g 0 y := by
        have := FR.step c (y : Int) hbc.2.1 hyc (by omega)
        simpa using this
      have hyO := (hO.mem y).2 hyr
      constructor
      · rintro hle ⟨hne, ho⟩
        have := hgr.deeper H _ b y (Nat.lt_succ_self _) ho hne
        omega
      · intro hno
        apply Int.not_lt.1
        intro hlt
        apply hno
        have hne : b ≠ y := fun e => by subst e; omega
        refine ⟨hne, ?_⟩
        have hb0 := (hgr.bd b hbO).1
        have hy0 : y ≠ 0 := fun e => by subst e; have := hgr.z; omega
        obtain ⟨u, u1, u2, u3, u4⟩ := hup.is_ y hyr hy0
        obtain ⟨u', w1, w2⟩ := hgr.d y hyO hy0
        obtain rfl : u = u' := by omega
        have huc := u3.pred u2 hbc.2.1 hyc
        rcases hgr.lin H _ u b c (Nat.lt_succ_self _) huc hbc with q | q
        · by_cases e : u = b
          · subst e; exact u3
          · have := hgr.deeper H _ u b (Nat.lt_succ_self _) q e
            omega
        · exact q.trans u3
    have hdp : ∀ k, (catG g row).getD k 0 = (y : Int) → dpG deep (catG g row) k = deep.getD y 0 := fun k hk => by unfold dpG; rw [hk]; rfl
    constructor
    · rintro (h | ⟨k, k1, k2, k3, k4⟩)
      · cases h
      · have he := (hset y).1 ⟨k, k1, k2, k3⟩
        rw [hdp k k3] at k4
        exact ⟨he, (hdeep he).1 k4⟩
    · rintro ⟨he, hno⟩
      obtain ⟨k, k1, k2, k3⟩ := (hset y).2 he
      exact .inr ⟨k, k1, k2, k3, by rw [hdp k k3]; exact (hdeep he).2 hno⟩
end Go.Proofs.Ytoplllebaagnnaa
