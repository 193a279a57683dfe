/-
  graph.Rings.
-/
import Derived.Test.YtlejpoofgnenhaaGrW
namespace Go.Proofs.Ytlejpoofgnenhaa
open Go.RowKit Go.Shelf
set_option linter.unusedVariables false
set_option linter.unusedSimpArgs false

def bkE (g : List GB) (l : List Nat) (b : Nat) : List Int := predsG (edgesOf g l) b
def ringsRun (bk : Nat → List Int) (n : Nat) : List Nat → List Bool → List (List Nat) → List (List Nat)
  | [], _, ps => ps
  | b :: l, sh, ps => if sh.getD b false then ringsRun bk n l sh ps else ringsRun bk n l (srcP bk n sh b).1 (ps ++ [sortN (srcP bk n sh b).2])
def ringsP (g : List GB) : List (List Nat) := (ringsRun (bkE g (orderP g)) g.length (orderP g) (List.replicate g.length false) []).reverse
/-- Rows of numbers. -/
def GRows (w : World) (base : Nat) (v : Value) (rs : List (Value × List Nat)) : Prop := w.ownsRow base 23 1 v rs.length (rs.map (·.1)) ∧ ∀ r ∈ rs, w.ownsRow base 3 1 r.1 r.2.length (natsV r.2)
theorem bkE_in {g : List GB} {l : List Nat} (hl : ∀ b ∈ l, b < g.length) : ∀ b, b < g.length → ∀ x ∈ bkE g l b, 0 ≤ x ∧ x < g.length := fun b _ x hx => by
  unfold bkE predsG at hx
  obtain ⟨e, he, rfl⟩ := List.mem_map.1 hx
  have h1 := (List.mem_filter.1 he).1
  unfold edgesOf at h1
  obtain ⟨c, hc, he2⟩ := List.mem_flatMap.1 h1
  obtain ⟨y, _, rfl⟩ := List.mem_map.1 he2
  have := hl c hc
  exact ⟨by simp, by simpa using this⟩
theorem GRows.keep {w w' : World} {base : Nat} {v : Value} {rs : List (Value × List Nat)} (h : GRows w base v rs) (hb : Below w.heap.size w w') : GRows w' base v rs := ⟨gr_up h.1 hb, fun r hr => gr_up (h.2 r hr) hb⟩
/-- While all that is older but one block lies as it lay, rows of one's own do. -/
theorem own_far {w w' : World} {base s : Nat} {T : TypeId} {n : Nat} {v : Value} {xs : List Value} (h : w.ownsRow base T 1 v n xs) (hz : w.heap.size ≤ w'.heap.size) (hb : ∀ k, k < w.heap.size → k ≠ s → w'.heap[k]? = w.heap[k]?) (hs : v.ownBlock ≠ some s) : w'.ownsRow base T 1 v n xs := by
  refine ⟨h.1, ?_⟩
  rcases h.2 with h1 | ⟨g, cap, cur, hv, h2, h3, rest⟩
  · exact .inl h1
  · exact .inr ⟨g, cap, cur, hv, h2, (hb g (gr_in h3) (fun e => hs (by rw [hv, ← e]; rfl))).trans h3, rest⟩
theorem not_own {w : World} {base s : Nat} {T T' : TypeId} {z n : Nat} {v : Value} {xs : List Value} {cur : Array Value} (h : w.ownsRow base T z v n xs) (hs : w.heap[s]? = some (.cells cur T' (0, 0))) (hne : T ≠ T') : v.ownBlock ≠ some s := fun e => by
  rcases h.2 with ⟨rfl, _⟩ | ⟨g, cap, cur', rfl, _, hg, _⟩
  · simp [Value.ownBlock] at e
  · simp [Value.ownBlock] at e
    subst e
    rw [hg] at hs
    simp at hs
    exact hne hs.2
theorem enterP_eq (b : Nat) (s : List Bool × List Nat) (hb : b < s.1.length) : unseen (enterP b s).1 + (enterP b s).2.length = unseen s.1 + s.2.length := by
  unfold enterP
  cases h : s.1.getD b false with
  | true => simp [h]
  | false =>
    have := unseen_set s.1 b hb h
    simp [h]
    omega
theorem fold_eq (n : Nat) : ∀ (l : List Int) (s : List Bool × List Nat), s.1.length = n → (∀ x ∈ l, 0 ≤ x ∧ x < n) → unseen (l.foldl (fun s x => enterP x.toNat s) s).1 + (l.foldl (fun s x => enterP x.toNat s) s).2.length = unseen s.1 + s.2.length
  | [], s, _, _ => rfl
  | x :: l, s, hs, hl => by
    have hx := hl x (by simp)
    have h1 := fold_eq n l (enterP x.toNat s) (by rw [enterP_len]; exact hs) (fun y hy => hl y (List.mem_cons_of_mem _ hy))
    have h2 := enterP_eq x.toNat s (by omega)
    rw [List.foldl_cons]
    omega
theorem srcRun_len (bk : Nat → List Int) (n : Nat) (hbk : ∀ b, b < n → ∀ x ∈ bk b, 0 ≤ x ∧ x < n) : ∀ (k : Nat) (sh : List Bool) (left o : List Nat) (sh' : List Bool) (xs : List Nat), srcRun bk k sh left o = some (sh', xs) → sh.length = n → (∀ b ∈ left, b < n) → xs.length + unseen sh' = o.length + left.length + unseen sh
  | k, sh, [], o, sh', xs, h, _, _ => by
    have : (sh, o) = (sh', xs) := by cases k <;> simpa [srcRun] using h
    injection this with e1 e2
    subst e1 e2
    simp
  | 0, sh, b :: left, o, sh', xs, h, _, _ => by simp [srcRun] at h
  | k + 1, sh, b :: left, o, sh', xs, h, hs, hl => by
    unfold srcRun at h
    have hb := hl b (by simp)
    have h1 := fold_eq n (bk b) (sh, left) hs (hbk b hb)
    have h2 := srcRun_len bk n hbk k _ _ _ _ _ h (by rw [fold_len]; exact hs) (foldl_enter_lt n (bk b) (sh, left) (hbk b hb) (fun c hc => hl c (List.mem_cons_of_mem _ hc)))
    simp at h1 h2 ⊢
    omega
theorem srcP_len {bk : Nat → List Int} {n : Nat} {sh : List Bool} {b : Nat} (hbk : ∀ b, b < n → ∀ x ∈ bk b, 0 ≤ x ∧ x < n) (hs : sh.length = n) (hb : b < n) : (srcP bk n sh b).2.length ≤ n := by
  have hr := srcP_run hbk hs hb
  have h1 := enterP_eq b (sh, []) (by simpa [hs] using hb)
  have h2 := unseen_le sh
  have h3 := srcRun_len bk n hbk _ _ _ _ (srcP bk n sh b).1 (srcP bk n sh b).2 hr (by rw [enterP_len]; exact hs) (fun c hc => by
    unfold enterP at hc
    split at hc
    · cases hc
    · simp at hc; omega)
  simp at h1 h3
  omega
theorem walkP_lt {g : List GB} (hg : tosOk g) : ∀ (k b : Nat) (s : List Bool) (o : List Nat) (s' : List Bool) (o' : List Nat), walkP g k b s o = some (s', o') → b < g.length → (∀ c ∈ o, c < g.length) → ∀ c ∈ o', c < g.length := by
  intro k
  induction k with
  | zero => intro b s o s' o' h; simp [walkP] at h
  | succ k ih =>
    intro b s o s' o' h hb ho
    unfold walkP at h
    cases hw : goP (walkP g k) (tosG g b) (s.set b true) o with
    | none => rw [hw] at h; cases h
    | some r =>
      obtain ⟨s1, o1⟩ := r
      rw [hw] at h
      simp only [Option.some.injEq, Prod.mk.injEq] at h
      obtain ⟨rfl, rfl⟩ := h
      have key : ∀ (ts : List Int) (s : List Bool) (o : List Nat) (s1 : List Bool) (o1 : List Nat), goP (walkP g k) ts s o = some (s1, o1) → (∀ t ∈ ts, 0 ≤ t ∧ t < g.length) → (∀ c ∈ o, c < g.length) → ∀ c ∈ o1, c < g.length := by
        intro ts
        induction ts with
        | nil => intro s o s1 o1 h _ ho; simp [goP] at h; rw [← h.2]; exact ho
        | cons t ts iht =>
          intro s o s1 o1 h ht ho
          unfold goP at h
          have h0 := ht t (by simp)
          split at h
          · exact iht s o s1 o1 h (fun x hx => ht x (List.mem_cons_of_mem _ hx)) ho
          · cases hf : walkP g k t.toNat s o with
            | none => rw [hf] at h; cases h
            | some r =>
              obtain ⟨s2, o2⟩ := r
              rw [hf] at h
              exact iht s2 o2 s1 o1 h (fun x hx => ht x (List.mem_cons_of_mem _ hx)) (ih _ _ _ _ _ hf (by omega) ho)
      intro c hc
      rcases List.mem_append.1 hc with hc | hc
      · exact key _ _ _ _ _ hw (fun t ht => hg b t ht) ho c hc
      · simp at hc; omega
theorem orderP_lt (g : List GB) : ∀ b ∈ orderP g, b < g.length := fun b hb => by
  unfold orderP at hb
  rw [List.mem_reverse] at hb
  cases h : wholeG g with
  | false => unfold postP at hb; rw [h] at hb; simp at hb
  | true =>
    obtain ⟨s', h1, _⟩ := postP_run h
    obtain ⟨hp, _⟩ := wholeG_all h
    exact walkP_lt (tosOk_of h) _ _ _ _ _ _ h1 hp (fun c hc => by cases hc) b hb
theorem orderP_ends (g : List GB) : ∀ (j : Nat) (d : GB), j ∈ orderP g → g[j]? = some d → ∀ t ∈ d.to_, 0 ≤ t ∧ t < g.length := fun j d hj hd t ht => by
  cases h : wholeG g with
  | false => unfold orderP postP at hj; rw [h] at hj; simp at hj
  | true => exact (wholeG_all h).2 j d hd t ht

set_option maxRecDepth 100000 in
set_option maxHeartbeats 16000000 in
theorem rings_g (n0 : Nat) (f : Value) (g : List GB) (w : World) (hf : GF n0 w f g) (hn : n0 ≤ w.heap.size) (hlim : (edgesOf g (orderP g)).length ≤ 1048576) :
    Calls Try.prog 11 #[f] w fun e w' => ∃ v rs, e = .returned v ∧ GRows w' w.heap.size v rs ∧ rs.map (·.2) = ringsP g ∧ Below w.heap.size w w' := by
  obtain ⟨s, pA, pn, pc, r, iA, in_, ic, bA, bn, bc, rfl, hG, hbn⟩ := hf
  obtain ⟨W, hW, hbW, hzW, h0W⟩ := gr_one w #[.string s, .slice pA pn pc, .int .i64 r, .slice iA in_ ic, .slice bA bn bc] 27
  obtain ⟨x0, x1, x2, x3, x4, -⟩ := gr_five h0W
  have hlen : bn ≤ 1048576 := by rw [hbn]; obtain ⟨_, _, _, h, _⟩ := hG; exact h
  have hfr : ∀ A : World, Below n0 w A → GF n0 A (.agg #[.string s, .slice pA pn pc, .int .i64 r, .slice iA in_ ic, .slice bA bn bc]) g := fun A hA => ⟨s, pA, pn, pc, r, iA, in_, ic, bA, bn, bc, rfl, hG.keep hA, hbn⟩
  have hO := order_g n0 _ g W (hfr W (hbW.mono hn)) (by omega)
  have holen : (orderP g).length ≤ g.length := by unfold orderP; rw [List.length_reverse]; exact postP_len g
  have holt := orderP_lt g
  have hoends := orderP_ends g
  obtain ⟨i0, hi0, hz0, hz1, hz2⟩ := info_parts infoBoolG
  have Hi := Lib.hid hi0
  have Hz0 := Lib.hid hz0
  have Hz1 := Lib.hid hz1
  have Hz2 := Lib.hid hz2
  obtain ⟨j1, hj1, jz0, jz1, jz2⟩ := info_parts infoRowsG
  have Ji := Lib.hid hj1
  have Jz0 := Lib.hid jz0
  have Jz1 := Lib.hid jz1
  have Jz2 := Lib.hid jz2
  have Hbn := Lib.hid hbn
  have HbW := Lib.hid hbW
  have HW := Lib.hid hW
  have HzW := Lib.hid hzW
  have H0W := Lib.hid h0W
  have Hfr := Lib.hid hfr
  obtain ⟨l, hl⟩ : ∃ l, l = orderP g := ⟨_, rfl⟩
  have hrp : ringsP g = (ringsRun (bkE g l) g.length l (List.replicate g.length false) []).reverse := by rw [hl]; rfl
  rw [← hl] at hO holen holt hoends hlim
  obtain ⟨ml, hml⟩ : ∃ ml, ml = l.length := ⟨_, rfl⟩
  rw [← hml] at hO holen
  have Hml := Lib.hid hml
  have Hrp := Lib.hid hrp
  have Holt := Lib.hid holt
  have Hoends := Lib.hid hoends
  have hmlb : ml ≤ bn := by rw [hbn]; exact holen
  clear hi0 hz0 hz1 hz2 hj1 jz0 jz1 jz2 hbW hW hG hbn hzW h0W hfr hl hrp hml holt hoends holen
  go_enter Try.func11, Try.ntmps11
  go_upto_region 1 with fail
  rw [← HW.out]
  go_upto_region 2 with (go_at_call 26; refine hO.mono ?_; rintro e w1 ⟨v1, rfl, ho1, hb1⟩; obtain ⟨OA, oc, rfl⟩ := gr_slice ho1; have Ho1 := Lib.hid ho1; have Hb1 := Lib.hid hb1; clear ho1 hb1 hO)
  clear x0 x1 x2 x3 x4
  have h01 := (Hb1.out.block w.heap.size (by have := HzW.out; omega)).trans H0W.out
  have hb01 : Below w.heap.size w w1 := HbW.out.trans (Hb1.out.mono (by have := HzW.out; omega))
  obtain ⟨x0, x1, x2, x3, x4, -⟩ := gr_five h01
  have hv1 : GNs w1.heap.size w1 (.slice OA ml oc) (l.map fun (b : Nat) => (b : Int)) := by
    have h := Ho1.out
    rw [natsV_ints] at h
    have e1 : ml = (l.map fun (b : Nat) => (b : Int)).length := by rw [List.length_map]; exact Hml.out
    rw [e1] at h ⊢
    exact GNs.of_own h
  have hBE := byEnds_g n0 _ (.slice OA ml oc) g l w1 (Hfr.out w1 (hb01.mono hn)) (by have := hb01.size; omega) Hoends.out hv1 Holt.out (by rw [← Hml.out, ← Hbn.out]; exact hmlb) hlim
  have H01 := Lib.hid h01
  have Hb01 := Lib.hid hb01
  have Hv1 := Lib.hid hv1
  clear h01 hb01 hv1
  go_upto_region 3 with (go_at_call 27; refine hBE.mono ?_; rintro e w2 ⟨hb2, lb, rfl, hBA⟩; have Hb2 := Lib.hid hb2; have HBA := Lib.hid hBA; clear hb2 hBA hBE)
  clear x0 x1 x2 x3 x4
  have h02 := (Hb2.out.block w.heap.size (gr_in H01.out)).trans H01.out
  obtain ⟨x0, x1, x2, x3, x4, -⟩ := gr_five h02
  go_wp2_with (at_make; refine wpList_make_full _ rfl (.tmp 16) (.tmp 16) 32 rfl w2.heap.size 4 i0 (.bool false) 1 Try.underlying32 Hi.out Hz0.out Hz1.out _ _ _ _ bn rfl rfl rfl rfl (by rw [Hz2.out]; omega) (by unfold maxLen; omega) (Nat.le_refl _) ?_)
  intro w3 ho3 hg3
  have hb3 : Below w2.heap.size w2 w3 := (Below.refl _ _).grown hg3 (Nat.le_refl _) (fun k e => by cases e)
  rw [madeBool] at ho3
  have hs3 := own_full ho3
  have hbkin : ∀ b, b < bn → ∀ x ∈ bkE g l b, 0 ≤ x ∧ x < (bn : Int) := by rw [Hbn.out]; exact bkE_in Holt.out
  have Hbkin := Lib.hid hbkin
  obtain ⟨res, hres⟩ : ∃ res, res = ringsRun (bkE g l) bn l (List.replicate bn false) [] := ⟨_, rfl⟩
  have Hres := Lib.hid hres
  have Hs3 := Lib.hid hs3
  have Hb3 := Lib.hid hb3
  have hBA3 := HBA.out.later hb3.size (fun k hk => hb3.block k hk)
  have HBA3 := Lib.hid hBA3
  have hR0 : Hid (w3.heap[w2.heap.size]? = some (.cells (boolsV (List.replicate bn false)).toArray 4 (0, 0)) ∧ GRows w3 w2.heap.size (.slice none 0 0) [] ∧ Below w2.heap.size w2 w3 ∧ ringsRun (bkE g l) bn (l.drop 0) (List.replicate bn false) (([] : List (Value × List Nat)).map (·.2)) = res ∧ (List.replicate bn false).length = bn) := Lib.hid ⟨hs3, ⟨World.ownsRow_nil _ _ _ _, fun r hr => by cases hr⟩, hb3, by rw [hres]; rfl, by simp⟩
  clear ho3 hg3 hb3 hs3 hbkin hres hBA3 x0 x1 x2 x3 x4
  go_upto_region 6 with fail
  go_loopw [20, 6] (fun u20 u6 wr => ∃ (i : Nat) (sh : List Bool) (PV : Value) (rs : List (Value × List Nat)), i ≤ ml ∧ u20 = .int .i64 i ∧ u6 = PV ∧ rs.length ≤ i ∧ Hid (wr.heap[w2.heap.size]? = some (.cells (boolsV sh).toArray 4 (0, 0)) ∧ GRows wr w2.heap.size PV rs ∧ Below w2.heap.size w2 wr ∧ ringsRun (bkE g l) bn (l.drop i) sh (rs.map (·.2)) = res ∧ sh.length = bn)) (fun u20 _ _ => ml - (intOf u20).toNat)
  case atStart => exact ⟨0, _, _, [], Nat.zero_le _, rfl, rfl, Nat.zero_le _, hR0⟩
  case round =>
    clear hR0 Hs3
    obtain ⟨i, sh, PV, rs, hi, rfl, rfl, hrl, HR⟩ := hrel
    obtain ⟨hsb, hGR, hbel, hrun, hshl⟩ := HR.out
    obtain ⟨PA, PC, hPV⟩ := gr_slice hGR.1
    by_cases hlt : i < ml
    · have hil : i < l.length := by rw [← Hml.out]; exact hlt
      have hb2w := Hb2.out
      obtain ⟨vb, vo, rfl, hvb, hvc⟩ := (Hv1.out.keep (hb2w.trans (hbel.mono hb2w.size))).at (j := i) (by simpa using hil)
      rw [List.getElem_map] at hvc
      have hbl := Holt.out _ (List.getElem_mem hil)
      rw [← Hbn.out] at hbl
      rw [List.drop_eq_getElem_cons hil, ringsRun] at hrun
      obtain ⟨b, hbb⟩ : ∃ b, b = l[i] := ⟨_, rfl⟩
      rw [← hbb] at hvc hbl hrun
      have d0 : wr.cell? ⟨w2.heap.size, b, none⟩ = some (.bool (sh.getD b false)) := by
        rw [Lib.cell_of_heap hsb b]
        have := boolsV_at sh b (by omega)
        simpa using this
      cases hq : sh.getD b false with
      | true =>
        rw [hq] at d0 hrun
        rw [if_pos rfl] at hrun
        have HN := Lib.hid (And.intro hsb (And.intro hGR (And.intro hbel (And.intro hrun hshl))))
        clear hsb hGR hbel hrun hshl hq hbb hvb hb2w HR hPV
        go_wp2
        go_roundw
        case rel => exact ⟨i + 1, sh, _, rs, by omega, by go_num, rfl, by omega, HN⟩
        case measure => simp [intOf]; omega
      | false =>
        rw [hq] at d0 hrun
        rw [if_neg (by simp)] at hrun
        subst hPV
        have hbk := Hbkin.out
        have hsr := srcP_run (bk := bkE g l) (sh := sh) (b := b) hbk hshl hbl
        have hspec := srcP_spec (bk := bkE g l) (sh := sh) (b := b) hbk hshl hbl
        have hxl := srcP_len (bk := bkE g l) (sh := sh) (b := b) hbk hshl hbl
        obtain ⟨sh2, hsh2⟩ : ∃ sh2, sh2 = (srcP (bkE g l) bn sh b).1 := ⟨_, rfl⟩
        obtain ⟨xs, hxs⟩ : ∃ xs, xs = (srcP (bkE g l) bn sh b).2 := ⟨_, rfl⟩
        have hsr2 : srcRun (bkE g l) (2 * bn + 2) (enterP b (sh, [])).1 (enterP b (sh, [])).2 [] = some (sh2, xs) := by rw [hsr, hsh2, hxs]
        rw [← hsh2, ← hxs] at hrun
        rw [← hxs] at hxl
        have hbx : b ∈ xs := by rw [hxs]; exact (hspec.1 b).2 (RB.here hq)
        have hpos : 0 < xs.length := List.length_pos_of_mem hbx
        have hsh2l : sh2.length = bn := by rw [hsh2]; exact hspec.2.2.2.1
        have hSG := sources_g 41 lb b w2.heap.size bn wr
        have hsbl : w2.heap.size < wr.heap.size := gr_in hsb
        have HBAr := Lib.hid (HBA.out.later (Nat.le_of_lt hsbl) (fun k hk => hbel.block k hk))
        have Hrun := Lib.hid hrun
        have Hsb := Lib.hid hsb
        have HGR := Lib.hid hGR
        have Hbel := Lib.hid hbel
        have Hsr2 := Lib.hid hsr2
        have Hshl := Lib.hid hshl
        have Hsh2l := Lib.hid hsh2l
        have hxl2 : xs.length ≤ 1048576 := by omega
        clear hsb hGR hbel hrun hshl hbb hvb hb2w HR hsr hspec hxl hsh2 hxs hsr2 hbx hsh2l hbk hq
        go_upto_region 9 with fail
        clear d0 hvc
        go_wp2_with (first
          | (go_at_call 29; refine hSG.mono ?_; rintro e w8 ⟨rfl, h8⟩; obtain ⟨hb8, hz8, hk8, ht8, hs8⟩ := h8;
              have hso := sorted_g 44 #[.pointer (some ⟨wr.heap.size + 2, 0, none⟩), .pointer (some ⟨wr.heap.size + 1, 0, none⟩), .pointer (some ⟨wr.heap.size, 0, none⟩)] xs (fun k => k < w8.heap.size) (fun k => k = w2.heap.size) (fun W' => W'.heap[w2.heap.size]? = some (.cells (boolsV sh2).toArray 4 (0, 0))) w8 enters_sources
                (fun W1 hb1 => sources_sep (wr.heap.size + 2) (wr.heap.size + 1) wr.heap.size w2.heap.size bn b (2 * bn + 2) (.func (.func 41) #[] lb) (bkE g l) sh sh2 xs (fun k => k < w2.heap.size) (fun k => k < w8.heap.size) W1 (Lib.cell_of_heap ((hb1.block _ (by omega)).trans hs8) 0) ((hb1.block _ (by omega)).trans ((hb8.block _ hsbl).trans Hsb.out)) (Lib.cell_of_heap ((hb1.block _ (by omega)).trans ht8) 0) hbl (Lib.cell_of_heap ((hb1.block _ (by omega)).trans hk8) 0)
                  (by rw [Hbn.out]; exact HBAr.out.later (by have := hb1.size; omega) (fun k hk => (hb1.block k (by omega)).trans (hb8.block k (by omega)))) Hbkin.out Hshl.out hlen (fun k hk => by omega) ⟨by omega, by omega, by omega, by omega⟩ (fun k hk => by have := hb1.size; omega) ⟨by omega, by omega, by omega, by omega, by omega⟩ Hsr2.out)
                (fun k hk => hk) hxl2 hpos (fun A B h1 h2 h3 => (h3 _ (by omega)).trans h1);
              have Hb8 := Lib.hid hb8; have Hz8 := Lib.hid hz8; clear hb8 hz8 hk8 ht8 hs8 hSG)
          | (go_at_call 28; refine hso.mono ?_; rintro e w9 ⟨v9, rfl, ho9, h9⟩; obtain ⟨A9, c9, rfl⟩ := gr_slice ho9; obtain ⟨p1, p2, p3, p4, p5, p6⟩ := h9;
              have hfar : ∀ k, k < wr.heap.size → k ≠ w2.heap.size → w9.heap[k]? = wr.heap[k]? := (fun k hk hs => (p6 k (by have := Hz8.out; omega) hs).trans (Hb8.out.block k hk));
              have hz9 : wr.heap.size ≤ w9.heap.size := (by have := Hz8.out; omega);
              have hPV9 := own_far HGR.out.1 hz9 hfar (not_own HGR.out.1 Hsb.out (by decide));
              obtain ⟨A2, hA2, hbA, hzA, h0A⟩ := gr_one w9 #[.slice A9 xs.length c9] 23;
              have HOW := Lib.hid (gr_up hPV9 hbA);
              have HNW := Lib.hid (World.news_of_block h0A);
              have HOn : Hid (∀ u ∈ ([.slice A9 xs.length c9] : List Value), u.oneCell' = true) := Lib.hid (by intro u hu; simp at hu; subst hu; rfl);
              have hsz2 : w2.heap.size ≤ A2.heap.size := (by omega);
              have Ho9 := Lib.hid ho9; have Hp1 := Lib.hid p1; have Hp3 := Lib.hid p3; have Hp4 := Lib.hid p4; have Hp5 := Lib.hid p5; have Hfar := Lib.hid hfar; have Hz9 := Lib.hid hz9; have HbA := Lib.hid hbA; have HzA := Lib.hid hzA;
              rw [hA2] at HOW HNW hsz2;
              have HA2 := Lib.hid hA2;
              clear ho9 p1 p2 p3 p4 p5 p6 hso hfar hz9 hPV9 hA2 hbA hzA h0A)
          | (at_builtin; refine wpList_append_lies _ rfl (.tmp 29) (.tmp 35) 29 rfl w2.heap.size 23 j1 (.slice none 0 0) 1 24 Try.underlying29 Ji.out Jz0.out Jz1.out Jz2.out rfl (by decide) (.slice PA rs.length PC) rs.length (rs.map (·.1)) rfl HOW.out ⟨w9.heap.size, 0, none⟩ 1 1 [.slice A9 xs.length c9] rfl rfl HNW.out HOn.out (by decide) (by unfold maxLen; omega) (by omega) hsz2 _ rfl ?_))
        intro gp cp w5 hown5 hgrow hat hlt5
        rw [← HA2.out] at hgrow
        have hsbz : w2.heap.size < wr.heap.size := hsbl
        have hPs : (Value.slice PA rs.length PC).ownBlock ≠ some w2.heap.size := not_own HGR.out.1 Hsb.out (by decide)
        have hsz5 : wr.heap.size ≤ w5.heap.size := by have := hgrow.size; have := HbA.out.size; have := Hz9.out; omega
        have hsb5 : w5.heap[w2.heap.size]? = some (.cells (boolsV sh2).toArray 4 (0, 0)) := (hgrow.block _ (by have := HbA.out.size; have := Hz9.out; omega) (fun e => hPs e.symm)).trans ((HbA.out.block _ (by have := Hz9.out; omega)).trans Hp1.out)
        have hrow5 : ∀ r ∈ rs ++ [(Value.slice A9 xs.length c9, sortN xs)], w5.ownsRow w2.heap.size 3 1 r.1 r.2.length (natsV r.2) := fun r hr => by
          rcases List.mem_append.1 hr with hr | hr
          · have h1 := HGR.out.2 r hr
            have h2 := own_far h1 Hz9.out Hfar.out (not_own h1 Hsb.out (by decide))
            exact (gr_up h2 HbA.out).kept hgrow (gr_apart h1 HGR.out.1 (by decide))
          · simp at hr
            subst hr
            have h1 := gr_mono Ho9.out (base' := w2.heap.size) (by have := Hz8.out; omega)
            have h2 : w9.ownsRow w2.heap.size 3 1 (Value.slice A9 xs.length c9) (sortN xs).length (natsV (sortN xs)) := by rw [sortN_len]; exact h1
            have h3 := own_far HGR.out.1 Hz9.out Hfar.out hPs
            exact (gr_up h2 HbA.out).kept hgrow (gr_apart h2 h3 (by decide))
        have hGR5 : GRows w5 w2.heap.size (.slice (some ⟨gp, 0, none⟩) (rs.length + 1) cp) (rs ++ [(Value.slice A9 xs.length c9, sortN xs)]) := ⟨by simpa using hown5, hrow5⟩
        have hbel5 : Below w2.heap.size w2 w5 := Hbel.out.trans ⟨hgrow.os.trans (HbA.out.os.trans (Hp3.out.trans Hb8.out.os)), hgrow.tape.trans (HbA.out.tape.trans (Hp4.out.trans Hb8.out.tape)), hgrow.output.trans (HbA.out.output.trans (Hp5.out.trans Hb8.out.output)), hsz5, fun k hk => (hgrow.block k (by have := HbA.out.size; have := Hz9.out; omega) (fun e => by have := (HGR.out.1.lt k e.symm).1; omega)).trans ((HbA.out.block k (by have := Hz9.out; omega)).trans (Hfar.out k (by omega) (by omega)))⟩
        have hrun5 : ringsRun (bkE g l) bn (l.drop (i + 1)) sh2 ((rs ++ [(Value.slice A9 xs.length c9, sortN xs)]).map (·.2)) = res := by rw [List.map_append]; exact Hrun.out
        have HN := Lib.hid (And.intro hsb5 (And.intro hGR5 (And.intro hbel5 (And.intro hrun5 Hsh2l.out))))
        clear hown5 hgrow hat hlt5 hsbz hPs hsz5 hsb5 hrow5 hGR5 hbel5 hrun5 HOW HNW hsz2 hsbl
        go_wp2
        go_roundw
        case rel => exact ⟨i + 1, sh2, _, _, by omega, by go_num, rfl, by simp; omega, HN⟩
        case measure => simp [intOf]; omega
    · obtain rfl : i = ml := by omega
      have hrs : rs.map (·.2) = res := by
        have := hrun
        rw [Hml.out, List.drop_length, ringsRun] at this
        exact this
      have hR := rev_rows w2.heap.size _ rs.length _ wr hGR.1 hbel.size (by omega) (fun u hu => by
        obtain ⟨r, hr, rfl⟩ := List.mem_map.1 hu
        exact gr_slice (hGR.2 r hr) |>.elim fun A h => h.elim fun c h => ⟨A, r.2.length, c, h⟩)
      have hb2w := Hb2.out
      have hbW2 : Below w.heap.size w wr := (Hb01.out.trans (hb2w.mono (Hb01.out.size))).trans (hbel.mono (by have := Hb01.out.size; have := hb2w.size; omega))
      have HbW2 := Lib.hid hbW2
      have HGR := Lib.hid hGR
      have Hrs := Lib.hid hrs
      have hw2w : w.heap.size ≤ w2.heap.size := by have := Hb01.out.size; have := hb2w.size; omega
      subst hPV
      have hwr2 : w2.heap.size ≤ wr.heap.size := hbel.size
      clear hrs hGR hbel hrun hshl hsb HR hb2w hbW2
      go_wp2_with (go_at_call 30; refine hR.mono ?_; rintro e w9 ⟨⟨r9, rfl⟩, ho9, hg9⟩; have Ho9 := Lib.hid ho9; have Hg9 := Lib.hid hg9; clear ho9 hg9 hR)
      go_ret
      refine ⟨_, rs.reverse, rfl, ⟨?_, fun r hr => ?_⟩, ?_, HbW2.out.grown Hg9.out HbW2.out.size (fun k e => by have := (HGR.out.1.lt k e).1; omega)⟩
      · have := gr_mono Ho9.out (base' := w.heap.size) hw2w
        rw [List.length_reverse, List.map_reverse]
        exact this
      · rw [List.mem_reverse] at hr
        have h1 := HGR.out.2 r hr
        exact gr_mono (h1.kept Hg9.out (gr_apart h1 HGR.out.1 (by decide))) hw2w
      · rw [List.map_reverse, Hrs.out, Hrp.out, Hres.out, Hbn.out]
end Go.Proofs.Ytlejpoofgnenhaa
