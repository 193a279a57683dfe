/-
  An instruction is laid down behind a row that a conversion made.
-/
import Derived.Test.YtglobeajmdieaaaDoorIpS
import Derived.Lib.ConvBytes
namespace Go.Proofs.YtglobeajmdieaaaDoor
open Go.RowKit
set_option linter.unusedVariables false
set_option linter.unusedSimpArgs false

theorem step_appendX {P : Program} {w : World} {ops : Array Oper} {o : Oper} {a : Act} {K : Act → World → Prop} {Q : Exit → Act → World → Prop} {E : Prop} (_hgd0 : True) (hgd : o.guard = none) (sl x : Operand) (t : TypeId) (ho : o.op = .call { callee := .builtin .append, args := #[sl, x], argTypes := #[t, t] })
    (B : Nat) (e : TypeId) (i : TypeInfo) (ht : P.underlying t = some (.slice e)) (hi : P.info? e = some i) (hz : i.zero = some (.int .u8 0)) (hs : i.size = 1) (hby : i.bytes = 1) (v : Value) (n : Nat) (xs : List Value) (hv : a.eval sl = v) (h : OwnX w B e v n xs) (hB : B ≤ w.heap.size)
    (ad : Addr) (m c : Nat) (news : List Value) (hx : a.eval x = .slice (some ad) m c) (hl : news.length = m) (hnews : ∀ j u, news[j]? = some u → w.cell? (ad.add j) = some u) (h1 : ∀ u ∈ news, u.oneCell' = true) (hlim : n + m ≤ 140737488355328)
    (k : ∀ v' w', OwnX w' B e v' (n + m) (xs ++ news) → w.grownBy w' v.ownBlock → K (a.put o.dst v') w') :
    if Region.wanted o (yielded ops a.tmps) = true then Oper.wp P o a w K Q else E := by
  have hw : Region.wanted o (yielded ops a.tmps) = true := by simp [Region.wanted, hgd]
  rw [if_pos hw]
  obtain ⟨v', w', hr, h2, h3⟩ := appendX P w B t o.type e i ht hi hz hs hby v n xs h hB ad m c news hl hnews h1 hlim
  unfold Oper.wp execOp
  simp only [ho, resolve, invoke, builtin, Sem.run_bind, Sem.run_pure, Result.andThen_ok, List.map_toArray, List.map_cons, List.map_nil, hv, hx, hr]
  exact k v' w' h2 h3
/-- What a conversion from a string makes. -/
theorem conv_own (w : World) (B : Nat) (hB : B ≤ w.heap.size) (e : TypeId) (s : ByteArray) (hs : s.size ≤ 140737488355328) : OwnX (Lib.bytesWorld w e s) B e (.slice (some ⟨w.heap.size, 0, none⟩) s.size (grownCap w s.size 0 e)) s.size (Lib.strCells s) := by
  have hge := grownCap_ge w s.size 0 e
  have hsz : (Lib.bytesCells w e s).size = grownCap w s.size 0 e := by
    have h1 : s.data.size = s.size := rfl
    simp [Lib.bytesCells, h1]
    omega
  refine ⟨Lib.strCells_length s, w.heap.size, _, _, _, rfl, hB, Lib.bytesWorld_at_new w e s, hge, grownCap_le_maxLen w s.size 0 e (by unfold maxLen; omega), hsz, fun j hj h => ?_, ?_⟩
  · simp only at h; omega
  · have h1 : s.data.size = s.size := rfl
    simp [Lib.bytesCells, Lib.strCells, List.take_append_of_le_length, h1]
/-- What stands while a text is laid down: its bytes, what was kept. -/
structure TX (B n : Nat) (xs : List Value) (w0 w : World) (v : Value) (t : List UInt8) : Prop where
  own : OwnX w B 5 v (n + t.length) (xs ++ Lib.byteCells t)
  b : Below B w0 w
  k : Lib.OthersKept 5 none w0 w
theorem TX.more {B n : Nat} {xs : List Value} {w0 w w' : World} {v v' : Value} {t s : List UInt8} (h : TX B n xs w0 w v t) (ho : OwnX w' B 5 v' (n + t.length + s.length) (xs ++ Lib.byteCells t ++ Lib.byteCells s)) (hb : Below B w w') (hk : Lib.OthersKept 5 none w w') : TX B n xs w0 w' v' (t ++ s) := by
  refine ⟨?_, h.b.trans hb, h.k.trans hk⟩
  rw [List.length_append, ← Nat.add_assoc, show Lib.byteCells (t ++ s) = Lib.byteCells t ++ Lib.byteCells s by simp [Lib.byteCells], ← List.append_assoc]
  exact ho
theorem TX.up {B n : Nat} {xs : List Value} {w0 w w' : World} {v : Value} {t : List UInt8} (h : TX B n xs w0 w v t) (hB : B ≤ w.heap.size) (hb : Below w.heap.size w w') : TX B n xs w0 w' v t :=
  ⟨h.own.keep hb, h.b.trans (hb.mono hB), h.k.trans (kept_below hb)⟩
/-- A word and numbers that lie somewhere. -/
theorem sayX_tx (B n : Nat) (xs : List Value) (w0 w : World) (sv v : Value) (t : List UInt8) (word : ByteArray) (l : List Int) (h : TX B n xs w0 w sv t) (hBw : B ≤ w.heap.size) (hl : ∀ x ∈ l, InR x) (hr : RdN B w v l) (hlim : n + t.length + word.size + 22 * l.length + 22 ≤ 140737488355328) (htab : Lib.TabBelow Tryd.prog B w "internal/strconv.uint64pow10" .u64 Lib.pow10Tab) :
    Calls Tryd.prog 11 #[sv, .string word, v] w fun e w' => ∃ v', e = .returned v' ∧ TX B n xs w0 w' v' (t ++ sayP word.data.toList l) :=
  (say_x B (n + t.length) sv v _ word l w h.own hBw hl hr hlim htab).mono (fun e w' ⟨v', he, ho, hb, hk⟩ => ⟨v', he, h.more ho hb hk⟩)
/-- A word and one number. -/
theorem sayX_one (B n : Nat) (xs : List Value) (w0 w : World) (sv : Value) (t : List UInt8) (word : ByteArray) (x : Int) (h : TX B n xs w0 w sv t) (hBw : B ≤ w.heap.size) (hl : InR x) (hlim : n + t.length + word.size + 44 ≤ 140737488355328) (htab : Lib.TabBelow Tryd.prog B w "internal/strconv.uint64pow10" .u64 Lib.pow10Tab) :
    Calls Tryd.prog 11 #[sv, .string word, .slice (some ⟨w.heap.size, 0, none⟩) 1 1] (w.alloc (.cells #[.int .i64 x] 3)) fun e w' => ∃ v', e = .returned v' ∧ TX B n xs w0 w' v' (t ++ sayP word.data.toList [x]) := by
  obtain ⟨W, hW, hbW, hzW, h0⟩ := r_one_al w #[.int .i64 x] 3
  rw [← hW]
  refine sayX_tx B n xs w0 W sv _ t word [x] (h.up hBw hbW) (by omega) (by simpa using hl) ⟨_, 1, rfl, fun _ => ⟨w.heap.size, 0, _, rfl, h0, .inr fun c fz e => ?_, fun j y hy => ?_⟩⟩ (by simp; omega) (htab.on (hbW.mono hBw))
  · injection e with _ e2 _
    exact absurd e2 (by decide)
  · rcases j with _ | j
    · simp at hy
      subst hy
      exact Lib.cell_of_heap h0 0
    · simp at hy
theorem TX.le {B n : Nat} {xs : List Value} {w0 w : World} {v : Value} {t : List UInt8} (h : TX B n xs w0 w v t) (hB : B ≤ w0.heap.size) : B ≤ w.heap.size := Nat.le_trans hB h.b.size
set_option maxRecDepth 100000 in
set_option maxHeartbeats 16000000 in
theorem sayInsX_tx (B n : Nat) (xs : List Value) (w0 w : World) (sv v : Value) (t : List UInt8) (id : Int) (d : InD) (h : TX B n xs w0 w sv t) (hB0 : B ≤ w0.heap.size) (hid : InR id) (hd : d.ok) (hr : RdN B w v d.args) (hlim : n + t.length + 22 * d.args.length + 400 ≤ 140737488355328) (htab : Lib.TabBelow Tryd.prog B w0 "internal/strconv.uint64pow10" .u64 Lib.pow10Tab) :
    Calls Tryd.prog 13 #[sv, .int .i64 id, .agg #[.int .i64 d.op, .int .i64 d.ty, v, .int .i64 d.n, .int .i64 d.tg]] w fun e w' => ∃ v', e = .returned v' ∧ TX B n xs w0 w' v' (t ++ insP id d) := by
  obtain ⟨VA, Vc, rfl, hrv⟩ := hr
  have hrn : RdN B w (.slice VA d.args.length Vc) d.args := ⟨VA, Vc, rfl, hrv⟩
  obtain ⟨W, hW, hbW, hzW, hX⟩ := r_one_al w #[.int .i64 d.op, .int .i64 d.ty, .slice VA d.args.length Vc, .int .i64 d.n, .int .i64 d.tg] 43
  have hTw := h.up (h.le hB0) hbW
  have hBW : B ≤ W.heap.size := hTw.le hB0
  have hTW : TX B n xs W W sv t := ⟨hTw.own, Below.refl _ _, Lib.OthersKept.refl _ _ _⟩
  have hkX : ∀ w', Lib.OthersKept 5 none W w' → w'.heap[w.heap.size]? = some (.cells #[.int .i64 d.op, .int .i64 d.ty, .slice VA d.args.length Vc, .int .i64 d.n, .int .i64 d.tg] 43 (0, 0)) := fun w' hk => hk _ _ hX (by simp) (fun c fz e => by injection e with _ e2 _; exact absurd e2 (by decide))
  have hrW : RdN B W (.slice VA d.args.length Vc) d.args := hrn.keep (hbW.mono (h.le hB0)) (kept_below hbW)
  have l1 : (sayP [10, 32] [id]).length ≤ 24 := say_len _ _ (by simpa using hid)
  have l2 : (sayP [32, 61] [d.op]).length ≤ 24 := say_len _ _ (by simpa using hd.1)
  have l3 : (sayP [] d.args).length ≤ 22 * d.args.length := by have := say_len [] d.args hd.2.2.1; simpa using this
  have l4 : (sayP [32, 59] [d.ty]).length ≤ 24 := say_len _ _ (by simpa using hd.2.1)
  have l5 := Lib.itoa_length_le d.n hd.2.2.2.1.1 hd.2.2.2.1.2
  have htW := htab.on hTw.b
  have hS1 := sayX_one B n xs W W sv t ⟨#[10, 32]⟩ id hTW hBW hid (by show n + t.length + 2 + 44 ≤ _; omega) htW
  obtain ⟨i0, hi0, hz0, hz1, hz2⟩ := info_parts infoByte
  have Hi := Lib.hid hi0
  have Hz0 := Lib.hid hz0
  have Hz1 := Lib.hid hz1
  have Hz2 := Lib.hid hz2
  have HW := Lib.hid hW
  have HTw := Lib.hid hTw
  have HBW := Lib.hid hBW
  have HkX := Lib.hid hkX
  have HrW := Lib.hid hrW
  have Hd := Lib.hid hd
  have HtW := Lib.hid htW
  clear hW hbW hzW hX hTW hkX hrW hrn hrv h hd htab hid hTw hBW htW hi0 hz0 hz1 hz2
  go_enter Tryd.func13, Tryd.ntmps13
  go_upto_region 1 with fail
  rw [← HW.out]
  go_upto_region 2 with (go_at_call 11; refine hS1.mono ?_; rintro e w1 ⟨v1, rfl, h1⟩; have H1 := Lib.hid h1; clear h1 hS1)
  obtain ⟨t1, ht1⟩ : ∃ t1, t1 = t ++ sayP [10, 32] [id] := ⟨_, rfl⟩
  have hl1 : t1.length ≤ t.length + 24 := by rw [ht1, List.length_append]; omega
  have H1 : Hid (TX B n xs W w1 v1 t1) := Lib.hid (by rw [ht1]; exact H1.out)
  obtain ⟨x0, x1, x2, x3, x4, -⟩ := cells5 (HkX.out w1 H1.out.k)
  have hS2 := sayX_one B n xs W w1 v1 t1 ⟨#[32, 61]⟩ d.op H1.out (H1.out.le HBW.out) Hd.out.1 (by show n + t1.length + 2 + 44 ≤ _; omega) (HtW.out.on H1.out.b)
  go_upto_region 3 with (go_at_call 11; refine hS2.mono ?_; rintro e w2 ⟨v2, rfl, h2⟩; have H2 := Lib.hid h2; clear h2 hS2)
  obtain ⟨t2, ht2⟩ : ∃ t2, t2 = t1 ++ sayP [32, 61] [d.op] := ⟨_, rfl⟩
  have hl2 : t2.length ≤ t.length + 48 := by rw [ht2, List.length_append]; omega
  have H2 : Hid (TX B n xs W w2 v2 t2) := Lib.hid (by rw [ht2]; exact H2.out)
  clear x0 x1 x2 x3 x4
  obtain ⟨x0, x1, x2, x3, x4, -⟩ := cells5 (HkX.out w2 H2.out.k)
  have hS3 := sayX_tx B n xs W w2 v2 (.slice VA d.args.length Vc) t2 ⟨#[]⟩ d.args H2.out (H2.out.le HBW.out) Hd.out.2.2.1 (HrW.out.keep H2.out.b H2.out.k) (by show n + t2.length + 0 + 22 * d.args.length + 22 ≤ _; omega) (HtW.out.on H2.out.b)
  go_upto_region 4 with (go_at_call 11; refine hS3.mono ?_; rintro e w3 ⟨v3, rfl, h3⟩; have H3 := Lib.hid h3; clear h3 hS3)
  obtain ⟨t3, ht3⟩ : ∃ t3, t3 = t2 ++ sayP [] d.args := ⟨_, rfl⟩
  have hl3 : t3.length ≤ t.length + 48 + 22 * d.args.length := by rw [ht3, List.length_append]; omega
  have H3 : Hid (TX B n xs W w3 v3 t3) := Lib.hid (by rw [ht3]; exact H3.out)
  clear x0 x1 x2 x3 x4
  obtain ⟨x0, x1, x2, x3, x4, -⟩ := cells5 (HkX.out w3 H3.out.k)
  have hS4 := sayX_one B n xs W w3 v3 t3 ⟨#[32, 59]⟩ d.ty H3.out (H3.out.le HBW.out) Hd.out.2.1 (by show n + t3.length + 2 + 44 ≤ _; omega) (HtW.out.on H3.out.b)
  go_upto_region 5 with (go_at_call 11; refine hS4.mono ?_; rintro e w4 ⟨v4, rfl, h4⟩; have H4 := Lib.hid h4; clear h4 hS4)
  obtain ⟨t4, ht4⟩ : ∃ t4, t4 = t3 ++ sayP [32, 59] [d.ty] := ⟨_, rfl⟩
  have hl4 : t4.length ≤ t.length + 72 + 22 * d.args.length := by rw [ht4, List.length_append]; omega
  have H4 : Hid (TX B n xs W w4 v4 t4) := Lib.hid (by rw [ht4]; exact H4.out)
  clear x0 x1 x2 x3 x4
  have hX4 := HkX.out w4 H4.out.k
  obtain ⟨k, hk⟩ : ∃ k, k = n + t4.length := ⟨_, rfl⟩
  have hkl : k + 100 ≤ 140737488355328 := by omega
  have ho4 : OwnX w4 B 5 v4 k (xs ++ Lib.byteCells t4) := by rw [hk]; exact H4.out.own
  have hbw4 : B ≤ w4.heap.size := H4.out.le HBW.out
  obtain ⟨A, hA, hbA, hzA, h0A⟩ := r_one_al w4 #[.int .u8 32] 5
  have HNW := Lib.hid (World.news_of_block (w := A.drew) h0A)
  have hoA : OwnX A.drew B 5 v4 k (xs ++ Lib.byteCells t4) := ho4.keep hbA.drew
  have HOW := Lib.hid hoA
  have HOn : Hid (∀ u ∈ ([.int .u8 32] : List Value), u.oneCell' = true) := Lib.hid (by intro u hu; simp at hu; subst hu; rfl)
  have hsz : B ≤ A.drew.heap.size := by show B ≤ A.heap.size; omega
  have gd : w4.drew.cell? ⟨w.heap.size, 3, none⟩ = some (.int .i64 d.n) := Lib.cell_of_heap (w := w4.drew) hX4 3
  have hKA : Lib.OthersKept 5 none W A.drew := H4.out.k.trans (kept_below (w' := A.drew) hbA.drew)
  have hXA := HkX.out A.drew hKA
  have gA : A.drew.cell? ⟨w.heap.size, 3, none⟩ = some (.int .i64 d.n) := Lib.cell_of_heap hXA 3
  have hBA : Below B W A.drew := H4.out.b.trans (show Below B w4 A.drew from (hbA.drew.mono hbw4))
  have HBA := Lib.hid hBA
  have HKA := Lib.hid hKA
  have HA := Lib.hid hA
  have Hk := Lib.hid hk
  have Hsz := Lib.hid hsz
  clear hA hbA hzA h0A hoA hKA hXA hBA ho4 hk hX4
  refine wp_region_noPanic ?_
  refine wp_region_held_drew (S := fun w' => w'.cell? ⟨w.heap.size, 3, none⟩ = some (.int .i64 d.n)) (by kernel_rfl) gd (fun hHeld => ?_)
  refine wpAnyH_take (i := 0) (v := ?_) rfl (by kernel_rfl) (by kernel_rfl) (by kernel_rfl) (fun _ _ _ h => h) (Or.inl ⟨by rfl, ?_⟩) (by assumption) ?_
  rotate_left
  · (intro w hSw; (try dsimp only at hSw); first | (go_simp; done) | (go_simp; with_reducible rfl))
  try simp only [Act.put, List.setIfInBounds_toArray, List.set_cons_zero, List.set_cons_succ]
  refine wpAnyH_take (i := 3) (v := ?_) rfl (by kernel_rfl) (by kernel_rfl) (by kernel_rfl) (fun _ _ _ h => h) (Or.inl ⟨by rfl, ?_⟩) (by assumption) ?_
  rotate_left
  · (intro w hSw; (try dsimp only at hSw); first | (go_simp; done) | (go_simp; with_reducible rfl))
  try simp only [Act.put, List.setIfInBounds_toArray, List.set_cons_zero, List.set_cons_succ]
  refine wpAnyH_take (i := 4) (v := ?_) rfl (by kernel_rfl) (by kernel_rfl) (by kernel_rfl) (fun _ _ _ h => h) (Or.inl ⟨by rfl, ?_⟩) (by assumption) ?_
  rotate_left
  · (intro w hSw; (try dsimp only at hSw); first | (go_simp; done) | (go_simp; with_reducible rfl))
  try simp only [Act.put, List.setIfInBounds_toArray, List.set_cons_zero, List.set_cons_succ]
  refine wpAnyH_ready (rs := [1]) (by kernel_rfl) (by simp) ?_
  refine AllReadyH.cons rfl (fun K hK => ?_) (AllReadyH.nil)
  go_simp
  (try rw [← HA.out])
  refine hK.out _ _ ?_ (fun hHeld => ?_)
  · ((try dsimp only); first | with_reducible exact gd | with_reducible exact gA | with_reducible exact g5 | with_reducible exact g6)
  clear hK K
  try simp only [Act.put, List.setIfInBounds_toArray, List.set_cons_zero, List.set_cons_succ]
  refine wpAnyH_ready (rs := [2]) (by kernel_rfl) (by simp) ?_
  refine AllReadyH.cons rfl (fun K hK => ?_) (AllReadyH.nil)
  refine step_appendX trivial rfl (.tmp 25) (.tmp 26) 37 rfl B 5 i0 Tryd.underlying37 Hi.out Hz0.out Hz1.out Hz2.out v4 k _ (by simp [Act.eval, Act.put]) HOW.out Hsz.out ⟨w4.heap.size, 0, none⟩ 1 1 [.int .u8 32] (by simp [Act.eval, Act.put]) rfl HNW.out HOn.out (by omega) ?_
  intro v5 w5 hown5 hgrow
  have hB5 : Below B W w5 := HBA.out.grown hgrow Hsz.out (fun g' e => (HOW.out.lt g' e).1)
  have hK5 : Lib.OthersKept 5 none W w5 := HKA.out.grown hgrow HOW.out.row
  have g5 : w5.cell? ⟨w.heap.size, 3, none⟩ = some (.int .i64 d.n) := Lib.cell_of_heap (HkX.out w5 hK5) 3
  have hAI := appI_any B (k + 1) d.n Hd.out.2.2.2.1.1 Hd.out.2.2.2.1.2 v5 _ w5 hown5 (Nat.le_trans HBW.out hB5.size) (by omega) (HtW.out.on hB5)
  have HB5 := Lib.hid hB5
  have HK5 := Lib.hid hK5
  clear hown5 hgrow hB5 hK5
  refine hK.out _ _ ?_ (fun hHeld => ?_)
  · ((try dsimp only); first | with_reducible exact gd | with_reducible exact gA | with_reducible exact g5 | with_reducible exact g6)
  clear hK K
  try simp only [Act.put, List.setIfInBounds_toArray, List.set_cons_zero, List.set_cons_succ]
  refine wpAnyH_ready (rs := [5]) (by kernel_rfl) (by simp) ?_
  refine AllReadyH.cons rfl (fun K hK => ?_) (AllReadyH.nil)
  go_simp
  refine hAI.mono ?_
  rintro e w6 ⟨v6, rfl, ho6, hb6, hk6⟩
  have hT6 : TX B n xs W w6 v6 (t4 ++ (32 :: Lib.itoa d.n)) := by
    refine ⟨?_, HB5.out.trans hb6, HK5.out.trans hk6⟩
    have e1 : n + (t4 ++ (32 :: Lib.itoa d.n)).length = k + 1 + (Lib.itoa d.n).length := by rw [Hk.out, List.length_append, List.length_cons]; omega
    have e2 : xs ++ Lib.byteCells (t4 ++ (32 :: Lib.itoa d.n)) = xs ++ Lib.byteCells t4 ++ [Value.int .u8 32] ++ Lib.byteCells (Lib.itoa d.n) := by simp [Lib.byteCells]
    rw [e1, e2]
    exact ho6
  have H6 := Lib.hid hT6
  have g6 : w6.cell? ⟨w.heap.size, 3, none⟩ = some (.int .i64 d.n) := Lib.cell_of_heap (HkX.out w6 hT6.k) 3
  clear ho6 hb6 hk6 hT6 hAI
  refine hK.out _ _ ?_ (fun hHeld => ?_)
  · ((try dsimp only); first | with_reducible exact gd | with_reducible exact gA | with_reducible exact g5 | with_reducible exact g6)
  clear hK K
  try simp only [Act.put, List.setIfInBounds_toArray, List.set_cons_zero, List.set_cons_succ]
  refine wpAnyH_take (i := 6) (v := ?_) rfl (by kernel_rfl) (by kernel_rfl) (by kernel_rfl) (fun _ _ _ h => h) (Or.inl ⟨by rfl, ?_⟩) (by assumption) ?_
  rotate_left
  · (intro w hSw; (try dsimp only at hSw); first | (go_simp; done) | (go_simp; with_reducible rfl))
  try simp only [Act.put, List.setIfInBounds_toArray, List.set_cons_zero, List.set_cons_succ]
  refine wpAnyH_done (by kernel_rfl) ?_ _
  refine NoPanic.normal ?_
  clear gd gA g5 g6
  go_simp
  obtain ⟨t6, ht6⟩ : ∃ t6, t6 = t4 ++ (32 :: Lib.itoa d.n) := ⟨_, rfl⟩
  have hl6 : t6.length ≤ t.length + 94 + 22 * d.args.length := by rw [ht6, List.length_append, List.length_cons]; omega
  have H6 : Hid (TX B n xs W w6 v6 t6) := Lib.hid (by rw [ht6]; exact H6.out)
  obtain ⟨x0, x1, x2, x3, x4, -⟩ := cells5 (HkX.out w6 H6.out.k)
  have hS7 := sayX_one B n xs W w6 v6 t6 ⟨#[]⟩ d.tg H6.out (H6.out.le HBW.out) Hd.out.2.2.2.2 (by show n + t6.length + 0 + 44 ≤ _; omega) (HtW.out.on H6.out.b)
  go_wp2_with (go_at_call 11; refine hS7.mono ?_; rintro e w7 ⟨v7, rfl, h7⟩; have H7 := Lib.hid h7; clear h7 hS7)
  go_ret
  refine ⟨_, rfl, ?_⟩
  have e : t ++ insP id d = t6 ++ sayP [] [d.tg] := by rw [ht6, ht4, ht3, ht2, ht1]; simp [insP]
  rw [e]
  exact ⟨H7.out.own, HTw.out.b.trans H7.out.b, HTw.out.k.trans H7.out.k⟩
end Go.Proofs.YtglobeajmdieaaaDoor
