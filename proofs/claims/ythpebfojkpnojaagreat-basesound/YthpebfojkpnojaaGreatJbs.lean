/- Rows of calls, in memory; whether they are few. -/
import Derived.Test.YthpebfojkpnojaaGreatJab
import Derived.Test.YthpebfojkpnojaaGreatJbr
/- Rows of calls, in memory; whether they are few. -/
namespace Go.Proofs.YthpebfojkpnojaaGreat
open Go.RowKit Go.Maps
set_option linter.unusedVariables false
set_option linter.unusedSimpArgs false
set_option maxRecDepth 100000
/-- A call's six cells. -/
def cval (s : Bas.Cal) (p : Option Addr × Nat) (q : Option Addr × Nat) : List Value := [.int .i64 s.kind, .int .i64 s.id, .int .i64 s.by_, .slice p.1 s.lits.length p.2, .slice q.1 s.hints.length q.2, .bool s.red]
structure CalOk (W : World) (s : Bas.Cal) (a a2 : Option Addr) : Prop where
  lits : Lits W a s.lits
  hints : Hnts W a2 s.hints
  len : s.lits.length ≤ 35184372088832
  hlen : s.hints.length ≤ 35184372088832
  kind : I64 s.kind
  id : I64 s.id
  by_ : I64 s.by_
theorem CalOk.below {W W' : World} {s : Bas.Cal} {a a2 : Option Addr} (h : CalOk W s a a2) (hb : Below W.heap.size W W') : CalOk W' s a a2 := ⟨h.lits.below hb, h.hints.below hb, h.len, h.hlen, h.kind, h.id, h.by_⟩
/-- A row of calls. -/
def Cals (W : World) (a : Option Addr) (ss : List Bas.Cal) : Prop :=
  ss = [] ∨ ∃ b off, a = some ⟨b, off, none⟩ ∧ b < W.heap.size ∧ ∀ j (hj : j < ss.length), ∃ p q : Option Addr × Nat, CalOk W ss[j] p.1 q.1 ∧ ∀ t v, (cval ss[j] p q)[t]? = some v → W.cell? ⟨b, off + j * 6 + t, none⟩ = some v
theorem Cals.below {W W' : World} {a : Option Addr} {ss : List Bas.Cal} (h : Cals W a ss) (hb : Below W.heap.size W W') : Cals W' a ss := by
  rcases h with h | ⟨b, off, e, hl, hc⟩
  · exact .inl h
  · refine .inr ⟨b, off, e, Nat.lt_of_lt_of_le hl hb.size, fun j hj => ?_⟩
    obtain ⟨p, q, h1, h2⟩ := hc j hj
    exact ⟨p, q, h1.below hb, fun t v hv => (hb.cell (p := ⟨b, off + j * 6 + t, none⟩) hl).trans (h2 t v hv)⟩
theorem Cals.at {W : World} {a : Option Addr} {ss : List Bas.Cal} (h : Cals W a ss) {j : Nat} (hj : j < ss.length) : ∃ b off, ∃ p q : Option Addr × Nat, a = some ⟨b, off, none⟩ ∧ CalOk W ss[j] p.1 q.1 ∧ W.cell? ⟨b, off + j * 6, none⟩ = some (.int .i64 ss[j].kind) ∧ W.cell? ⟨b, off + j * 6 + 1, none⟩ = some (.int .i64 ss[j].id) ∧ W.cell? ⟨b, off + j * 6 + 2, none⟩ = some (.int .i64 ss[j].by_) ∧ W.cell? ⟨b, off + j * 6 + 3, none⟩ = some (.slice p.1 ss[j].lits.length p.2) ∧ W.cell? ⟨b, off + j * 6 + 4, none⟩ = some (.slice q.1 ss[j].hints.length q.2) ∧ W.cell? ⟨b, off + j * 6 + 5, none⟩ = some (.bool ss[j].red) := by
  rcases h with h | ⟨b, off, e, hl, hc⟩
  · rw [h] at hj; simp at hj
  · obtain ⟨p, q, h1, h2⟩ := hc j hj
    exact ⟨b, off, p, q, e, h1, h2 0 _ rfl, h2 1 _ rfl, h2 2 _ rfl, h2 3 _ rfl, h2 4 _ rfl, h2 5 _ rfl⟩
theorem Cals.shape {W : World} {a : Option Addr} {ss : List Bas.Cal} (h : Cals W a ss) : ss.length = 0 ∨ ∃ b off, a = some ⟨b, off, none⟩ := by
  rcases h with h | ⟨b, off, e, _⟩
  · left; rw [h]; rfl
  · exact .inr ⟨b, off, e⟩
/-- What few tells. -/
def FewOut (ss : List Bas.Cal) (e : Ending) : Prop := ∃ b : Bool, e = .returned (.bool b) ∧ (b = true → ss.length ≤ 40 ∧ Bas.nums ss ≤ 600)
set_option maxHeartbeats 2000000 in
theorem few22 (a : Option Addr) (n cap : Nat) (ss : List Bas.Cal) (w : World) (hn : ss.length = n) (hb : n ≤ 8796093022208) (hs : Cals w a ss) :
    Calls Tryz.prog 7 #[.slice a n cap] w fun e w' => FewOut ss e ∧ Drawn w w' := by
  have HX := hid hs
  have HN := hid hn
  have hsh : n = 0 ∨ ∃ b off, a = some ⟨b, off, none⟩ := by rw [← hn]; exact hs.shape
  clear hs hn
  go_enter Tryz.func7, Tryz.ntmps7
  go_wp2
  go_loopw [3, 4] (fun q i wr => ∃ (k m : Nat), q = .int .i64 m ∧ k ≤ n ∧ k ≤ 41 ∧ i = .int .i64 k ∧ Hid (m = Bas.nums (ss.take k)) ∧ m ≤ 70368744177664 * k ∧ Hid (Drawn w wr)) (fun _ i _ => n - (intOf i).toNat)
  case atStart => exact ⟨0, 0, rfl, Nat.zero_le _, Nat.zero_le _, rfl, hid rfl, Nat.zero_le _, hid (Drawn.refl _)⟩
  case round =>
    obtain ⟨k, m, rfl, hk, hk2, rfl, HQ, hq2, HD⟩ := hrel
    by_cases hlt : k < n
    · by_cases h60 : (k : Int) ≤ 40
      · have hlt' : (k : Int) < n := by omega
        have hks : k < ss.length := by rw [HN.out]; exact hlt
        obtain ⟨b, off, p, q, rfl, hok, x0, x1, x2, x3, x4, x5⟩ := (HX.out.below HD.out.below).at hks
        have HT := hid (Bas.nums_take ss k hks)
        have hl := hok.len
        have hl2 := hok.hlen
        clear hok x0 x1 x2 x5 hsh
        generalize ss[k].lits.length = n1 at *
        generalize ss[k].hints.length = n2 at *
        go_wp2
        go_quiet (fail)
        go_wp2
        go_roundw
        case rel => exact ⟨k + 1, m + n1 + n2, by go_num, by omega, by omega, by go_num, hid (by rw [HT.out, HQ.out]; omega), by omega, hid (HD.out.drewN _)⟩
        case measure => simp only [intOf]; omega
      · have h60' : ¬ (n : Int) ≤ 40 := by omega
        have hlt' : (k : Int) < n := by omega
        go_wp2
        go_ret
        exact ⟨⟨false, rfl, fun h => (by cases h)⟩, HD.out⟩
    · have hlt' : ¬ (k : Int) < n := by omega
      have HQ3 := hid (show m = Bas.nums ss by have h := HQ.out; rwa [List.take_of_length_le (by rw [HN.out]; omega)] at h)
      by_cases h60 : (n : Int) ≤ 40
      · by_cases h600 : (m : Int) ≤ 600
        · go_wp2
          go_ret
          exact ⟨⟨true, rfl, fun _ => ⟨by have := HN.out; omega, by have := HQ3.out; omega⟩⟩, HD.out⟩
        · go_wp2
          go_ret
          exact ⟨⟨false, rfl, fun h => (by cases h)⟩, HD.out⟩
      · go_wp2
        go_ret
        exact ⟨⟨false, rfl, fun h => (by cases h)⟩, HD.out⟩
end Go.Proofs.YthpebfojkpnojaaGreat

/- What the law asks of a base behind so many calls: the calls again, and how what they tell is read. -/
namespace Go.Proofs.YthpebfojkpnojaaGreat
open Go.RowKit Go.Maps
set_option linter.unusedVariables false
set_option linter.unusedSimpArgs false
set_option maxRecDepth 100000
theorem vr_i32 {x v : Int} (h : Bas.vr x ≤ v) (hv : v ≤ 1048576) : -2147483648 ≤ x ∧ x ≤ 2147483647 := by
  unfold Bas.vr at h
  split at h <;> omega
theorem own_cell {W : World} {base n c e size : Nat} {o : Option Addr} {xs : List Value} (h : W.ownsRow base e size (.slice o n c) n xs) (hn : 0 < n) : ∃ g, o = some ⟨g, 0, none⟩ ∧ base ≤ g ∧ g < W.heap.size ∧ ∀ j, j < n * size → W.cell? ⟨g, j, none⟩ = xs[j]? := by
  rcases h.2 with ⟨_, h0⟩ | ⟨g, c', cur, e1, h1, h2, _, _, h5, h6⟩
  · omega
  · injection e1 with e1 _ _
    refine ⟨g, e1, h1, lt_of_blk h2, fun j hj => ?_⟩
    rw [row_cell h2, ← h6, List.getElem?_take, if_pos hj, Array.getElem?_toList]
/-- The last place of a stack that was told. -/
theorem stk_last {S : List (List Int × List Int)} {p : List Int × List Int} {X : World} {e : Ending} {w' : World} (h : StkOut (S ++ [p]) X e w') : ∃ g c a1 c1 a2 c2, e = .returned (.slice (some ⟨g, 0, none⟩) (S.length + 1) c) ∧ w'.cell? ⟨g, S.length * 2, none⟩ = some (.slice a1 p.1.length c1) ∧ w'.cell? ⟨g, S.length * 2 + 1, none⟩ = some (.slice a2 p.2.length c2) ∧ Lits w' a1 p.1 ∧ Lits w' a2 p.2 ∧ p.1.length ≤ c1 ∧ Below X.heap.size X w' := by
  obtain ⟨o, c, Q, h1, h2, h3, h4, h5⟩ := h
  have hl : (S ++ [p]).length = S.length + 1 := by simp
  rw [hl] at h1 h3
  have hQ : Q.length = S.length + 1 := by rw [← hl, ← h2, List.length_map]
  obtain ⟨g, rfl, _, _, hc⟩ := own_cell h3 (by omega)
  have hk : S.length < Q.length := by omega
  have hq : (Q[S.length]'hk).1 = p := by
    have : (Q.map (·.1))[S.length]? = some p := by rw [h2]; simp
    rw [List.getElem?_map, List.getElem?_eq_getElem hk] at this
    simpa using this
  obtain ⟨m1, m2, m3⟩ := h4 _ (List.getElem_mem hk)
  have c0 := hc (S.length * 2 + 0) (by omega)
  have c1 := hc (S.length * 2 + 1) (by omega)
  rw [flat2_at hk (by decide)] at c0 c1
  rw [hq] at m1 m2 m3
  refine ⟨g, c, (Q[S.length]'hk).2.1.1, (Q[S.length]'hk).2.1.2, (Q[S.length]'hk).2.2.1, (Q[S.length]'hk).2.2.2, h1, ?_, ?_, m1, m2, m3, h5⟩
  · rw [Nat.add_zero] at c0
    rw [c0, ← hq]
    rfl
  · rw [c1, ← hq]
    rfl
theorem flat3_at {Q : List EnM} : ∀ {j : Nat} (hj : j < Q.length) {t : Nat} (ht : t < 3), (Q.flatMap enq)[j * 3 + t]? = (enq Q[j])[t]? := by
  induction Q with
  | nil => intro j hj; simp at hj
  | cons r Q ih =>
    intro j hj t ht
    rw [List.flatMap_cons]
    cases j with
    | zero => rw [List.getElem?_append_left (by simp [enq]; omega), Nat.zero_mul, Nat.zero_add]; rfl
    | succ j =>
      rw [List.getElem?_append_right (by simp [enq]; omega), show (j + 1) * 3 + t - (enq r).length = j * 3 + t by simp [enq]; omega, ih (by simp at hj; omega) ht]
      rfl
/-- Entries that were told, as they are read. -/
def Ents (L : List Bas.E) (lb : Nat) (X : World) : Prop := ∀ j (hj : j < L.length), ∃ a c, X.cell? ⟨lb, j * 3, none⟩ = some (.int .i64 L[j].id) ∧ X.cell? ⟨lb, j * 3 + 1, none⟩ = some (.slice a L[j].lits.length c) ∧ X.cell? ⟨lb, j * 3 + 2, none⟩ = some (.bool L[j].red) ∧ Lits X a L[j].lits
theorem Ents.below {L : List Bas.E} {lb : Nat} {X X' : World} (h : Ents L lb X) (hb : Below X.heap.size X X') : Ents L lb X' := fun j hj => by
  obtain ⟨a, c, h1, h2, h3, h4⟩ := h j hj
  exact ⟨a, c, (hb.cell (p := ⟨lb, j * 3, none⟩) (cell_lt h1)).trans h1, (hb.cell (p := ⟨lb, j * 3 + 1, none⟩) (cell_lt h2)).trans h2, (hb.cell (p := ⟨lb, j * 3 + 2, none⟩) (cell_lt h3)).trans h3, h4.below hb⟩
theorem EntC.ents {L : List Bas.E} {W : World} {en : Ending} {w' : World} (h : EntC L W en w') : ∃ lb c, en = .returned (.slice (some ⟨lb, 0, none⟩) L.length c) ∧ Ents L lb w' ∧ Below W.heap.size W w' := by
  obtain ⟨lb, c, Q, h1, h2, h3⟩ := h
  refine ⟨lb, c, h1, fun j hj => ?_, h3⟩
  have hQ : Q.length = L.length := by rw [← h2.ent, List.length_map]
  have hk : j < Q.length := by omega
  have hq : (Q[j]'hk).1 = L[j] := by
    have : (Q.map (·.1))[j]? = some L[j] := by rw [h2.ent]; simp
    rw [List.getElem?_map, List.getElem?_eq_getElem hk] at this
    simpa using this
  obtain ⟨g, e, _, _, hc⟩ := own_cell h2.own (by omega)
  cases e
  have c0 := hc (j * 3 + 0) (by omega)
  have c1 := hc (j * 3 + 1) (by omega)
  have c2 := hc (j * 3 + 2) (by omega)
  rw [flat3_at hk (by decide)] at c0 c1 c2
  have hr := (h2.rows _ (List.getElem_mem hk)).1.1
  rw [hq] at hr
  refine ⟨(Q[j]'hk).2.1, (Q[j]'hk).2.2, ?_, ?_, ?_, hr⟩
  · rw [Nat.add_zero] at c0
    rw [c0, ← hq]; rfl
  · rw [c1, ← hq]; rfl
  · rw [c2, ← hq]; rfl
/-- A base behind k calls. -/
def Rn (w : World) (bb : Nat) (ss : List Bas.Cal) (k : Nat) (X : World) : Prop := ∃ B s, Bst w bb B s X ∧ B ≤ 20000000 + 1000 * k ∧ Bas.Ok k (Bas.nums (ss.take k)) s
theorem Ok.look {k t : Nat} {s : Bas.S} (h : Bas.Ok k t s) {id : Int} {e : Bas.E} (he : Bas.look s.live id = some e) : e.lits.length ≤ 200 + t := h.lits e (Bas.look_mem he).1
theorem ok_next {k : Nat} {ss : List Bas.Cal} {s : Bas.S} (hk : k < ss.length) {m : Nat} (hm : m ≤ ss[k].lits.length + ss[k].hints.length) (h : Bas.Ok (k + 1) (Bas.nums (ss.take k) + m) s) : Bas.Ok (k + 1) (Bas.nums (ss.take (k + 1))) s := h.mono (Nat.le_refl _) (by rw [Bas.nums_take ss k hk]; omega)
theorem Bst.weaken2 {w : World} {bb B : Nat} {s : Bas.S} {V X : World} (h : Bst w bb B s V) (hX : Below V.heap.size V X) (hg : Bas.Good s) (hL : s.last ≤ 100000000) (hlit : ∀ e ∈ s.live, e.lits.length ≤ 100000000) (hru : s.rules.length ≤ 1000000000) (hst : s.stack.length ≤ 1000000000) (id : Int) (hi : I64 id)
    (a : Option Addr) (n c : Nat) (ws : List Int) (hn : ws.length = n) (hN : n ≤ 16777216) (hl : Lits X a ws) (hla : ∀ b off, a = some ⟨b, off, none⟩ → V.heap.size ≤ b) :
    Calls Tryz.prog 47 #[.pointer (some ⟨bb, 0, none⟩), .int .i64 id, .slice a n c] X fun en w' => en = .returned (.int .i64 (Bas.weakenE s id ws)) ∧ Bst w bb B (Bas.weakenS s id ws) w' ∧ X.heap.size ≤ w'.heap.size ∧ ∀ g, V.heap.size ≤ g → g < X.heap.size → w'.heap[g]? = X.heap[g]? := by
  obtain ⟨M, K, h1, h2, h3, h4⟩ := h
  refine (weaken11 (h1.below hX) hg hL hlit hru hst id hi a n c ws hn hN ⟨hl, fun b off e _ hm => ?_⟩).mono ?_
  · have := hla b off e; have := (h3 b hm).2; omega
  · rintro en w' ⟨e, M', q1, q2, q3⟩
    exact ⟨e, Bst.step (B := B) h3 h4 hX q1 h2 q2 q3, q2.size, fun g hg hlt => q2.block g hlt (fun hm => by have := (h3 g hm).2; omega)⟩
section
variable {w : World} {bb B : Nat} {ss : List Bas.Cal} {k : Nat} {s : Bas.S} {V X : World}
theorem rn_add (h : Bst w bb B s V) (hB : B ≤ 20000000 + 1000 * k) (ho : Bas.Ok k (Bas.nums (ss.take k)) s) (hk : k < ss.length) (hn : ss.length ≤ 40) (hN : Bas.nums ss ≤ 600) (hX : Below V.heap.size V X)
    {base n c n2 c2 : Nat} {a a2 : Option Addr} (hbase : V.heap.size ≤ base) (h1 : X.ownsRow base 66 1 (.slice a n c) n (ss[k].lits.map (Value.int .i32))) (h2 : X.ownsRow base 2 1 (.slice a2 n2 c2) n2 (ss[k].hints.map (Value.int .i64))) (b1 : ∀ x ∈ ss[k].lits, -2147483648 ≤ x ∧ x ≤ 2147483647) (b2 : ∀ x ∈ ss[k].hints, -9223372036854775808 ≤ x ∧ x ≤ 9223372036854775807) (red : Bool) :
    Calls Tryz.prog 20 #[.pointer (some ⟨bb, 0, none⟩), .slice a n c, .slice a2 n2 c2, .bool red] X fun en w' => (∃ i e : Int, en = .returned (.tuple #[.int .i64 i, .int .i64 e])) ∧ Rn w bb ss (k + 1) w' := by
  have hl := Bas.nums_take ss k hk
  have hle := Bas.nums_le ss (k + 1)
  have e1 : ss[k].lits.length = n := by have := h1.1; simpa using this
  have e2 : ss[k].hints.length = n2 := by have := h2.1; simpa using this
  refine (h.add hX ho.good (fun e he => by have := ho.lits e he; omega) (by have := ho.last; omega) (by have := ho.rules; omega) (by omega) a n c ss[k].lits e1 (by omega) (own_row h1 b1) (fun b off e => ?_) a2 n2 c2 ss[k].hints e2 (by omega) (own_row h2 b2) (fun b off e => ?_) red).mono ?_
  · subst e
    have := (own_blk h1 (g := b) (by
      rcases h1.2 with ⟨q, _⟩ | ⟨g, c', cur, q, _⟩
      · cases q
      · cases q; rfl)).1
    omega
  · subst e
    have := (own_blk h2 (g := b) (by
      rcases h2.2 with ⟨q, _⟩ | ⟨g, c', cur, q, _⟩
      · cases q
      · cases q; rfl)).1
    omega
  · rintro en w' ⟨e, hb⟩
    exact ⟨⟨_, _, e⟩, _, _, hb, by omega, ok_next hk (m := n) (by omega) (ho.add _ _ red n (by omega))⟩
theorem rn_keep (h : Bst w bb B s V) (hB : B ≤ 20000000 + 1000 * k) (ho : Bas.Ok k (Bas.nums (ss.take k)) s) (hk : k < ss.length) (hn : ss.length ≤ 40) (id : Int) (hi : I64 id) :
    Calls Tryz.prog 22 #[.pointer (some ⟨bb, 0, none⟩), .int .i64 id] V fun en w' => (∃ e : Int, en = .returned (.int .i64 e)) ∧ Rn w bb ss (k + 1) w' := by
  refine (h.keepA (by omega) (by have := ho.rules; omega) id hi).mono ?_
  rintro en w' ⟨e, hb⟩
  exact ⟨⟨_, e⟩, _, _, hb, by omega, ok_next hk (m := 0) (by omega) (ho.keep id)⟩
theorem rn_delete (h : Bst w bb B s V) (hB : B ≤ 20000000 + 1000 * k) (ho : Bas.Ok k (Bas.nums (ss.take k)) s) (hk : k < ss.length) (hn : ss.length ≤ 40) (hN : Bas.nums ss ≤ 600) (id : Int) (hi : I64 id) :
    Calls Tryz.prog 23 #[.pointer (some ⟨bb, 0, none⟩), .int .i64 id] V fun en w' => (∃ e : Int, en = .returned (.int .i64 e)) ∧ Rn w bb ss (k + 1) w' := by
  have hle := Bas.nums_le ss k
  refine (h.delete (by have := ho.last; omega) (fun e he => by have := ho.lits e he; omega) (by have := ho.rules; omega) id hi).mono ?_
  rintro en w' ⟨e, hb⟩
  exact ⟨⟨_, e⟩, _, _, hb, by omega, ok_next hk (m := 0) (by omega) (ho.delete id)⟩
theorem rn_drop (h : Bst w bb B s V) (hB : B ≤ 20000000 + 1000 * k) (ho : Bas.Ok k (Bas.nums (ss.take k)) s) (hk : k < ss.length) (hn : ss.length ≤ 40) (hN : Bas.nums ss ≤ 600) (id by_ : Int) (hi : I64 id) (hj : I64 by_) :
    Calls Tryz.prog 24 #[.pointer (some ⟨bb, 0, none⟩), .int .i64 id, .int .i64 by_] V fun en w' => (∃ e : Int, en = .returned (.int .i64 e)) ∧ Rn w bb ss (k + 1) w' := by
  have hle := Bas.nums_le ss k
  refine (h.dropA ho.good (by omega) (by have := ho.last; omega) (fun e he => by have := ho.lits e he; omega) (by have := ho.rules; omega) id by_ hi hj).mono ?_
  rintro en w' ⟨e, hb⟩
  exact ⟨⟨_, e⟩, _, _, hb, by omega, ok_next hk (m := 0) (by omega) (ho.drop id by_)⟩
theorem rn_weaken (h : Bst w bb B s V) (hB : B ≤ 20000000 + 1000 * k) (ho : Bas.Ok k (Bas.nums (ss.take k)) s) (hk : k < ss.length) (hn : ss.length ≤ 40) (hN : Bas.nums ss ≤ 600) (hX : Below V.heap.size V X)
    {base n c : Nat} {a : Option Addr} (hbase : V.heap.size ≤ base) (h1 : X.ownsRow base 66 1 (.slice a n c) n (ss[k].lits.map (Value.int .i32))) (b1 : ∀ x ∈ ss[k].lits, -2147483648 ≤ x ∧ x ≤ 2147483647) (id : Int) (hi : I64 id) :
    Calls Tryz.prog 47 #[.pointer (some ⟨bb, 0, none⟩), .int .i64 id, .slice a n c] X fun en w' => en = .returned (.int .i64 (Bas.weakenE s id ss[k].lits)) ∧ Bst w bb B (Bas.weakenS s id ss[k].lits) w' ∧ Bas.Ok (k + 1) (Bas.nums (ss.take (k + 1))) (Bas.weakenS s id ss[k].lits) ∧ X.heap.size ≤ w'.heap.size ∧ ∀ g, V.heap.size ≤ g → g < X.heap.size → w'.heap[g]? = X.heap[g]? := by
  have hl := Bas.nums_take ss k hk
  have hle := Bas.nums_le ss (k + 1)
  have e1 : ss[k].lits.length = n := by have := h1.1; simpa using this
  refine (h.weaken2 hX ho.good (by have := ho.last; omega) (fun e he => by have := ho.lits e he; omega) (by have := ho.rules; omega) (by have := ho.stack; omega) id hi a n c ss[k].lits e1 (by omega) (own_row h1 b1) (fun b off e => ?_)).mono ?_
  · subst e
    have := (own_blk h1 (g := b) (by
      rcases h1.2 with ⟨q, _⟩ | ⟨g, c', cur, q, _⟩
      · cases q
      · cases q; rfl)).1
    omega
  · rintro en w' ⟨e, hb, hsz, hkp⟩
    exact ⟨e, hb, ok_next hk (m := n) (by omega) (ho.weaken id _ n (by omega)), hsz, hkp⟩
theorem rn_stack {K : Nat} {t : Nat} (h : Bst w bb B s V) (ho : Bas.Ok K t s) (hK : K ≤ 1000) (ht : t ≤ 1000) :
    Calls Tryz.prog 51 #[.pointer (some ⟨bb, 0, none⟩)] V fun en w' => StkOut s.stack V en w' ∧ Bst w bb B s w' :=
  h.stackC (by have := ho.stack; omega) (fun q hq => by have := ho.wits q hq; omega)
theorem rn_get {K : Nat} {t : Nat} (h : Bst w bb B s V) (ho : Bas.Ok K t s) (ht : t ≤ 1000) (id : Int) (hi : I64 id) :
    Calls Tryz.prog 52 #[.pointer (some ⟨bb, 0, none⟩), .int .i64 id] V fun en w' => GetOut V ((Bas.look s.live id).getD ⟨0, [], false⟩) (Bas.look s.live id).isSome en w' ∧ Bst w bb B s w' :=
  h.get id hi (fun e he => by have := Ok.look ho he; omega)
end
end Go.Proofs.YthpebfojkpnojaaGreat

