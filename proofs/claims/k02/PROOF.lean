import PyProof.Rows.All
import Wide.All
import OpenK.AllK
import Wide.FinOn
import HandS.ForMost
import HandS.Wide
import HandS.IsInst
import HandS.Codes
import HandS.AnyAll
import HandS.EndTab
import PyProof.GenCompD
import HandS.TupAny
import PySem.Challenge.RW_traymap_k02_what_is_a_filling
set_option Elab.async false
set_option linter.all false
set_option maxRecDepth 100000
namespace Tm
open PySem PySem.Spec PyProof.Rows L2
/-! ### what leaves all that stood -/
theorem kp_ext {s t : Shared} (k : Keeps s t) : ∀ b o, s.heap.get? b = some o → t.heap.get? b = some o := by
  obtain ⟨h, tk, rfl, e⟩ := k
  exact e
theorem kp_tr {s t u : Shared} (k : Keeps s t) (k' : Keeps t u) : Keeps s u := by
  obtain ⟨h, tk, rfl, e⟩ := k
  obtain ⟨h', tk', rfl, e'⟩ := k'
  exact ⟨h', tk', rfl, fun b o q => e' b o (e b o q)⟩
theorem kp_tk (s : Shared) (n : Nat) : Keeps s { s with toks := n } := ⟨s.heap, n, rfl, fun _ _ q => q⟩
theorem mod_ext {K : PySem.W.Frag} {mg : Str → Option Value} {h h' : Heap} (m : Mod K mg h) (k : ∀ b o, h.get? b = some o → h'.get? b = some o) : Mod K mg h' := by
  obtain ⟨mb, h1, h2⟩ := m.blt
  exact ⟨m.kin.keeps k, m.glob.keeps k, ⟨mb, h1.keeps k, h2⟩, m.nolimit.keeps k⟩
/-- a word about a heap that stays where it grows -/
def Stays (hm : Heap → Prop) : Prop := ∀ h h' : Heap, (∀ b o, h.get? b = some o → h'.get? b = some o) → hm h → hm h'
/-- e gives what R says, and all that stood is left as it was; whatever frames stand around -/
def Lo (prog : Program) (w : World) (K : PySem.W.Frag) (mg : Str → Option Value) (D : Nat) (env : Env) (hm : Heap → Prop) (e : Expr) (R : Value → Prop) : Prop :=
  ∀ (A : Around) (E : Value → Shared → Prop) (s : Shared), A.handled = none → A.depth ≤ D → Mod K mg s.heap → hm s.heap → wpAny (model prog w) A (eval e env) (fun r t => R r ∧ Keeps s t) E s
section
variable {prog : Program} {w : World} {K : PySem.W.Frag} {mg : Str → Option Value} {D : Nat} {env : Env} {hm : Heap → Prop}
theorem Lo.imp {e : Expr} {R R' : Value → Prop} (h : Lo prog w K mg D env hm e R) (i : ∀ r, R r → R' r) : Lo prog w K mg D env hm e R' := fun A E s h1 h2 h3 h4 =>
  wpAny_mono (h A E s h1 h2 h3 h4) (fun r t q => ⟨i r q.1, q.2⟩) fun _ _ x => x
/-- a name of the frame -/
theorem lo_name {x : Str} {pos : Pos} {v : Value} (hk : env.scope.kind = .function) (hl : env.kindOf x = some .local) (hv : ∀ h, hm h → ∃ m, h.Ns env.locals m ∧ m x = some v) (hd : (x == ("__debug__" : Str)) = false := by decide) :
    Lo prog w K mg D env hm (.Name x pos) (fun r => r = v) := fun A E s _ _ _ h4 => by
  obtain ⟨m, h5, h6⟩ := hv _ h4
  exact wpAny_Name (wpAny_loadName_local hk hl h5 h6 ⟨rfl, kp_tk s s.toks⟩) hd
/-- a name of the module -/
theorem lo_glob {x : Str} {pos : Pos} {v : Value} (hk : env.scope.kind = .function) (hl : env.kindOf x = some .globalImplicit) (hg : env.globals = mainGlobals) (hv : mg x = some v) (hd : (x == ("__debug__" : Str)) = false := by decide) :
    Lo prog w K mg D env hm (.Name x pos) (fun r => r = v) := fun A E s _ _ h3 _ =>
  Calls.Name_function_global hk hl (Calls.loadGlobal_global (by rw [hg]; exact h3.glob) hv ⟨rfl, kp_tk s s.toks⟩) hd
/-- a built-in's name -/
theorem lo_blt {x : Str} {pos : Pos} {v : Value} (hk : env.scope.kind = .function) (hl : env.kindOf x = some .globalImplicit) (hg : env.globals = mainGlobals) (hb : env.builtins = builtinsNs) (hv : mg x = none) (hu : bootBuiltins x = some v)
    (hn : x ≠ "__name__" := by decide) (hd : (x == ("__debug__" : Str)) = false := by decide) : Lo prog w K mg D env hm (.Name x pos) (fun r => r = v) := fun A E s _ _ h3 _ => by
  obtain ⟨mb, h5, h6⟩ := h3.blt
  exact Calls.Name_function_global hk hl (Calls.loadGlobal_builtin (by rw [hg]; exact h3.glob) hv (by rw [hb]; exact h5) ((h6 x hn).trans hu) ⟨rfl, kp_tk s s.toks⟩) hd
theorem lo_int {i : Int} {k : Nat} {pos : Pos} : Lo prog w K mg D env hm (.Constant (.int i) k pos) (fun r => ∃ t, r = .int i t) := fun A E s _ _ _ _ =>
  wpAny_Constant_int ⟨⟨_, rfl⟩, kp_tk s _⟩
theorem lo_one {op : BoolOp} {a : Expr} {pos : Pos} {R : Value → Prop} (h : Lo prog w K mg D env hm a R) : Lo prog w K mg D env hm (.BoolOp op [a] pos) R := fun A E s h1 h2 h3 h4 => BoolOp_one (h A E s h1 h2 h3 h4)
/-- a and b: what a is decides -/
theorem lo_and {a b : Expr} {rest : List Expr} {pos : Pos} {c : Bool} {R : Value → Prop} (st : Stays hm) (ha : Lo prog w K mg D env hm a (fun r => r = .bool c)) (hf : c = false → R (.bool false)) (ht : c = true → Lo prog w K mg D env hm (.BoolOp .And (b :: rest) pos) R) :
    Lo prog w K mg D env hm (.BoolOp .And (a :: b :: rest) pos) R := fun A E s h1 h2 h3 h4 => by
  refine BoolOp_and (wpAny_mono (ha A E s h1 h2 h3 h4) (fun r t q => ?_) fun _ _ x => x)
  obtain ⟨rfl, k⟩ := q
  refine wpAny_truthy_bool ?_
  cases c with
  | false => exact ⟨hf rfl, k⟩
  | true => exact wpAny_mono (ht rfl A E t h1 h2 (mod_ext h3 (kp_ext k)) (st _ _ (kp_ext k) h4)) (fun r u q => ⟨q.1, kp_tr k q.2⟩) fun _ _ x => x
theorem lo_not {a : Expr} {pos : Pos} {c : Bool} (ha : Lo prog w K mg D env hm a (fun r => r = .bool c)) : Lo prog w K mg D env hm (.UnaryOp .Not a pos) (fun r => r = .bool (!c)) := fun A E s h1 h2 h3 h4 => by
  refine UnaryOp_ (wpAny_mono (ha A E s h1 h2 h3 h4) (fun r t q => ?_) fun _ _ x => x)
  obtain ⟨rfl, k⟩ := q
  exact PyProof.Rows.not_of (wpAny_truthy_bool ⟨rfl, k⟩)
/-- isinstance(a, T), T a built-in type -/
theorem lo_isi {a : Expr} {T : Str} {Tn : String} {p0 p2 pos : Pos} {v t : Value} {Hk : Heap → Prop} {b : Bool} (st : Stays hm) (hk : env.scope.kind = .function) (hg : env.globals = mainGlobals) (hb : env.builtins = builtinsNs)
    (li : env.kindOf "isinstance" = some .globalImplicit) (mi : mg "isinstance" = none) (lT : env.kindOf T = some .globalImplicit) (mT : mg T = none) (bT : bootBuiltins T = some (.type Tn))
    (ha : Lo prog w K mg D env hm a (fun r => r = v)) (Z : PySem.W.KitX K v t Hk) (hK : ∀ h, hm h → Hk h) (e : PySem.W.kitOne K t (.type Tn) = some b) (hx : v ≠ .builtin "__main__.__loader__#opaque")
    (he : starEach [a, .Name T p2] env = (false, eval a env) :: starEach [.Name T p2] env := by rfl) (hn : T ≠ "__name__" := by decide) (hd : (T == ("__debug__" : Str)) = false := by decide) :
    Lo prog w K mg D env hm (.Call (.Name "isinstance" p0) [a, .Name T p2] [] pos) (fun r => r = .bool b) := fun A E s h1 h2 h3 h4 => by
  refine wpAny_Call_Name_kw (wpAny_mono (lo_blt (D := D) (hm := hm) (pos := p0) hk li hg hb mi (by decide +kernel : bootBuiltins "isinstance" = some (.builtin "isinstance")) (by decide) (by decide) A E s h1 h2 h3 h4) (fun r t1 q => ?_) fun _ _ x => x)
  obtain ⟨rfl, k1⟩ := q
  refine PyProof.Rows.callWith_builtin1 ?_ he (by rfl)
  rw [he]
  have m1 := mod_ext h3 (kp_ext k1)
  have s1 := st _ _ (kp_ext k1) h4
  refine Calls.spliced_cons (wpAny_mono (ha A E t1 h1 h2 m1 s1) (fun r t2 q => ?_) fun _ _ x => x)
  obtain ⟨rfl, k2⟩ := q
  have m2 := mod_ext m1 (kp_ext k2)
  have s2 := st _ _ (kp_ext k2) s1
  refine Calls.spliced_cons (wpAny_mono (lo_blt (D := D) (hm := hm) (pos := p2) hk lT hg hb mT bT hn hd A E t2 h1 h2 m2 s2) (fun r t3 q => ?_) fun _ _ x => x)
  obtain ⟨rfl, k3⟩ := q
  refine Calls.spliced_nil ?_
  exact PySem.W.kia_one Z (mod_ext m2 (kp_ext k3)).kin (hK _ (st _ _ (kp_ext k3) s2)) e hx fun tk => ⟨rfl, kp_tr (kp_tr (kp_tr k1 k2) k3) (kp_tk _ tk)⟩
/-- i <= a <= c of whole numbers -/
theorem lo_chain {a b c : Expr} {pos : Pos} {x y z : Int} (st : Stays hm) (ha : Lo prog w K mg D env hm a (fun r => ∃ t, r = .int x t)) (hb : Lo prog w K mg D env hm b (fun r => ∃ t, r = .int y t)) (hc : Lo prog w K mg D env hm c (fun r => ∃ t, r = .int z t))
    (hl : lastMarks [.LtE, .LtE] [b, c] = false := by with_unfolding_all rfl) : Lo prog w K mg D env hm (.Compare a [.LtE, .LtE] [b, c] pos) (fun r => r = .bool (decide (x ≤ y) && decide (y ≤ z))) := fun A E s h1 h2 h3 h4 => by
  refine Compare_chain (wpAny_mono (ha A E s h1 h2 h3 h4) (fun r t1 q => ?_) fun _ _ x => x) hl
  obtain ⟨⟨tx, rfl⟩, k1⟩ := q
  have m1 := mod_ext h3 (kp_ext k1)
  have s1 := st _ _ (kp_ext k1) h4
  refine chain_link (wpAny_mono (hb A E t1 h1 h2 m1 s1) (fun r t2 q => ?_) fun _ _ x => x)
  obtain ⟨⟨ty, rfl⟩, k2⟩ := q
  have m2 := mod_ext m1 (kp_ext k2)
  have s2 := st _ _ (kp_ext k2) s1
  refine le_int (wpAny_truthy_bool ?_)
  by_cases hxy : x ≤ y
  · rw [decide_eq_true hxy]
    show wpAny _ _ _ _ _ _
    refine chain_last (wpAny_mono (hc A E t2 h1 h2 m2 s2) (fun r t3 q => ?_) fun _ _ x => x)
    obtain ⟨⟨tz, rfl⟩, k3⟩ := q
    exact le_int ⟨by rw [Bool.true_and], kp_tr (kp_tr k1 k2) k3⟩
  · rw [decide_eq_false hxy]
    show _ ∧ _
    exact ⟨by rw [Bool.false_and], kp_tr k1 k2⟩
/-- f(a): f a def of the text of one parameter, its body one return -/
theorem lo_call {f : Addr} {x pn qual fn : Str} {a e : Expr} {params : Arguments} {scope : Scope} {oc kV doc pm cdv ct u : Value} {od an : Option Addr} {osl : Array (Option Value)} {p0 p1 pos : Pos} {R : Value → Prop} (st : Stays hm)
    (hk : env.scope.kind = .function) (hg : env.globals = mainGlobals) (lf : env.kindOf fn = some .globalImplicit) (mf : mg fn = some (.ref f)) (hD : D < recursionLimit)
    (lk : K.lookup f = some ⟨oc, od, .func (PySem.W.fnOf x qual params [.Return (some e) p1] scope .none kV doc pm an cdv ct), osl⟩) (hcd : PySem.W.codeIn K cdv qual = true) (kp : PySem.W.keepIn K (.ref f) = true)
    (S : FnScope [pn] [pn] scope) (hb : Binds K (PySem.W.fnOf x qual params [.Return (some e) p1] scope .none kV doc pm an cdv ct) [pn] [])
    (lp : scope.names.lookup pn = some .local) (ha : Lo prog w K mg D env hm a (fun r => r = u))
    (hbody : ∀ env' : Env, env'.scope = scope → env'.globals = mainGlobals → env'.builtins = builtinsNs → Lo prog w K mg (D + 1) env' (fun h => hm h ∧ ∃ m, h.Ns env'.locals m ∧ m pn = some u) e R)
    (he : starEach [a] env = (false, eval a env) :: starEach [] env := by rfl) (hd : (fn == ("__debug__" : Str)) = false := by decide) :
    Lo prog w K mg D env hm (.Call (.Name fn p0) [a] [] pos) R := fun A E s h1 h2 h3 h4 => by
  refine wpAny_Call_Name_kw (wpAny_mono (lo_glob (D := D) (hm := hm) (pos := p0) hk lf hg mf hd A E s h1 h2 h3 h4) (fun r t1 q => ?_) fun _ _ x => x)
  obtain ⟨rfl, k1⟩ := q
  have m1 := mod_ext h3 (kp_ext k1)
  have s1 := st _ _ (kp_ext k1) h4
  refine PySem.W.callWith_K (h₀ := t1.heap) m1.kin kp ?_ he (by rfl)
  rw [he]
  refine Calls.spliced_cons (wpAny_mono (ha A E t1 h1 h2 m1 s1) (fun r t2 q => ?_) fun _ _ x => x)
  obtain ⟨rfl, k2⟩ := q
  have m2 := mod_ext m1 (kp_ext k2)
  have s2 := st _ _ (kp_ext k2) s1
  refine Calls.spliced_nil ⟨m2.kin, ?_⟩
  have KX := m2.kin
  refine wpAny_call (codeAny_call_function (Nat.lt_of_le_of_lt h2 hD) (KX _ _ lk) rfl S.co S.gen rfl (PySem.W.codeRec_of KX hcd) (hb t2 [r] KX rfl _ _ _ _ ?_))
  refine wpAny_newFunctionEnv_cells S.kind (fun y hy => ?_) fun env' he' s3 x3 => ?_
  · obtain rfl : y = (pn, r) := List.mem_singleton.mp hy
    exact .inl lp
  · have k3 : Keeps t2 s3 := x3.done
    have m3 := mod_ext m2 (kp_ext k3)
    have s3' := st _ _ (kp_ext k3) s2
    refine ⟨m3.nolimit, codeAny_func ?_⟩
    have ns := x3.toInCall.ns
    have hv : bindL env'.kindOf ([pn].zip ([r] ++ [])) (fun _ => none) pn = some r := by
      subst he'
      show bindL _ [(pn, r)] _ pn = some r
      unfold bindL
      simp [bindL, newEnv, Env.kindOf, lp]
    have hb' := hbody env' (by subst he'; rfl) (by subst he'; rfl) (by subst he'; rfl) (A.deeper env')
    refine wpAny_execs_cons (wpAny_Return_some (wpAny_mono (hb' _ s3 h1 (Nat.succ_le_succ h2) m3 ⟨s3', _, ns, hv⟩) (fun r t q => ?_) fun _ _ x => x))
    exact ⟨q.1, kp_tr (kp_tr (kp_tr k1 k2) k3) q.2⟩
end
/-- all(elt for x in t), t a tuple; bs: what elt gives for each item; behind it the def's table may have grown -/
def tAllT (K : PySem.W.Frag) (P : Addr) (C : Hp → V → Bool → Prop) (te : TE) : TE := fun σ H Q => te σ H fun v H1 => ∃ (a : Addr) (xs : List V) (bs : List Bool), v = .ref a ∧ SqT K H1 a xs ∧ bs.length = xs.length ∧
  (∀ (i : Nat) (x : V) (b : Bool), xs[i]? = some x → bs[i]? = some b → C H1 x b) ∧ GxR.TabG H1 P ∧ ∀ H2, GxR.Tabbed P H1 H2 → Q (.bl (bs.all fun b => b)) H2
theorem all_get (bs : List Bool) : (List.range bs.length).all (fun j => (bs[j]?).getD false) = bs.all fun b => b := by
  rw [Bool.eq_iff_iff, List.all_eq_true, List.all_eq_true]
  constructor
  · intro h b hb
    obtain ⟨j, hj, e⟩ := List.getElem_of_mem hb
    have q := h j (List.mem_range.mpr hj)
    rw [List.getElem?_eq_getElem hj, e] at q
    exact q
  · intro h j hj
    rw [List.getElem?_eq_getElem (List.mem_range.mp hj)]
    exact h _ (List.getElem_mem _)
/-- what an element asks: at the item v it gives b, quietly -/
def EltOk (X : Cx) (P : Addr) (scope : Scope) (y : Str) (elt : Expr) (C : Hp → V → Bool → Prop) : Prop :=
  ∀ (pins : List (Addr × Obj)) (σ : L2.St) (H : Hp) (s : Shared) (v : V) (u : Value) (b : Bool), Inv X pins σ H s → RelV v u → C H v b → ∀ cenv : Env, cenv.scope = scope → cenv.globals = X.env.globals → cenv.builtins = builtinsNs →
    Lo X.prog X.w X.K X.mg (X.A.depth + 1) cenv (fun h => (∀ a o, a ≠ P → s.heap.get? a = some o → h.get? a = some o) ∧ ∃ m, h.Ns cenv.locals m ∧ m y = some u) elt (fun r => r = .bool b)
theorem pe_allT {X : Cx} {c P : Addr} {elt iter : Expr} {y : Str} {px p pos gpos : Pos} {scope : Scope} {C : Hp → V → Bool → Prop} {te : TE} {k : Nat}
    (hr : Room k X.A) (hg : Gl X "all") (hm : X.mg "all" = none) (TB : GxR.TabB X.base X.mg c P) (hcode : X.env.code = .ref c) (S : GxR.GenS X.env scope y) (hi : PE X iter te) (hel : EltOk X P scope y elt C)
    (hs : ∀ v, genFold iter X.env v = pure v)
    (he : starEach [.GeneratorExp elt [⟨.Name y px, iter, [], 0⟩] scope gpos] X.env = (false, eval (.GeneratorExp elt [⟨.Name y px, iter, [], 0⟩] scope gpos) X.env) :: starEach [] X.env := by rfl) :
    PE X (.Call (.Name "all" p) [.GeneratorExp elt [⟨.Name y px, iter, [], 0⟩] scope gpos] [] pos) (tAllT X.K P C te) := by
  refine ⟨fun pins s σ H Q I h => ?_⟩
  refine wpAny_Call_Name_kw (ld_blt I hg hm (by decide +kernel : bootBuiltins "all" = some (.builtin "all")) ?_)
  refine PyProof.Rows.callWith_builtin1 ?_ he (by rfl)
  rw [he]
  refine Calls.spliced_cons (wpAny_GeneratorExp_walksQD hr.hd S.co (closure_ok S.free) S.cell S.dot S.loc S.kind (by have z := hr.dp; omega) ?_ hs)
  refine thn (hi.run pins s σ H _ I h) fun xv s1 ⟨v, H1, I1, r1, a, xs, bs, ev, hT, hlen, hC, ⟨ps, hP, htr⟩, q1⟩ => ?_
  subst ev
  cases r1
  obtain ⟨its, rv, ht, hz⟩ := I1.tuple hT
  have lenI : its.length = xs.length := rv.length.symm
  have htl : a < s1.heap.objs.size := by
    obtain ⟨o, e, _⟩ := ht
    exact Heap.lt_size e
  have hPs : s1.heap.get? P = some { cls := .none, data := .fields ps } := I1.hok P _ hP
  have hPl : P < s1.heap.objs.size := Heap.lt_size hPs
  refine wpAny_pyIter_tuple (show s1.heap.IsTuple a its.toArray from ht) ?_
  generalize eo : ({ cls := .type "tuple_iterator", data := .fields #[.ref a, .int 0 0] } : Obj) = o
  have push1 : ∀ b u, s1.heap.get? b = some u → (s1.heap.push o).get? b = some u := fun b u e => Heap.get?_push_of_some _ e
  have szp : (s1.heap.push o).objs.size = s1.heap.objs.size + 1 := Heap.size_push ..
  have limp : (s1.heap.push o).NoLimit := I1.nolimit.push o
  have hcd : PySem.W.CodeHd (s1.heap.push o) c P := TB.code.keeps fun b u e => push1 b u (I1.bk b u e)
  refine ⟨limp, ?_⟩
  refine wpAny_mono (Q := fun _ s3 => ∃ (h3 : Heap) (tk : Nat) (more : Array Value), s3 = { s1 with heap := h3, toks := tk } ∧ Heap.ExtBut P (s1.heap.push o) h3 ∧ (s1.heap.push o).objs.size ≤ h3.objs.size ∧ h3.get? P = some { cls := .none, data := .fields (ps ++ more) } ∧ TriplesOk (ps ++ more).toList) (E := X.xe) ?_ (fun code s3 q3 => ?_) fun _ _ z => z
  · cases hf : codeAmong gpos ps.toList with
    | none =>
      refine wpAny_genexprCodeX hcode (hcd.code (push1 _ _ hPs) htr) (hcd.tab (push1 _ _ hPs)) hf fun c' h' tk hx hge hlt hco' _ htab' _ => ?_
      obtain ⟨o1, vs, f1, tf, fl, tg, inF, tx, tt, op, _, _, _, _, _, _, _, _, _, htr', _⟩ := hco'
      exact ⟨h', tk, _, rfl, hx, Nat.le_trans hge (Nat.le_of_lt hlt), htab'.2, htr'⟩
    | some cv =>
      refine wpAny_genexprCode_hit hcode (hcd.code (push1 _ _ hPs) htr) hf ?_
      exact ⟨s1.heap.push o, s1.toks, #[], rfl, Heap.ExtBut.refl _ _, Nat.le_refl _, by rw [Array.append_empty]; exact push1 _ _ hPs, by rw [Array.append_empty]; exact htr⟩
  · obtain ⟨h3, tk3, more, rfl, hx3, hsz3, hP3, htr3⟩ := q3
    obtain ⟨bm, ob, e1, e2, e3, e4, e5, e6, e7, e8⟩ := TB.bm
    have toH3 : ∀ b u, b ≠ P → s1.heap.get? b = some u → h3.get? b = some u := fun b u hb e => hx3 b u hb (push1 b u e)
    have nPc : cStatics ≠ P := fun e => by
      obtain ⟨_, hns, _⟩ := I1.nolimit
      obtain ⟨o', es, ep, ho, hd, _⟩ := hns
      rw [e, hPs] at ho
      cases ho
      cases hd
    have ltC : cStatics < s1.heap.objs.size := let ⟨_, hns, _⟩ := I1.nolimit; hns.lt
    have ltA : a ≠ P := fun e => by
      obtain ⟨o', e', c', _⟩ := ht
      rw [e, hPs] at e'
      cases e'
      cases c'
    refine wpAny_builtinsFor (m := X.mg) (by rw [I1.ok.glob]; exact ((I1.mod.glob.keeps I1.bk).push o).extBut hx3 TB.gP) e1 e2 (toH3 _ _ e4 (I1.bk _ _ e5)) e6 e7 e8 ?_
    have itl : s1.heap.objs.size < h3.objs.size := by omega
    refine ⟨s1.heap.objs.size, [s1.heap.objs.size, a], [s1.heap.objs.size], its.toArray.size, _, _, (fun _ => true), (fun i r => ∃ b, bs[i]? = some b ∧ r = .bool b), rfl, fun A' hA => Walks.tuple hA _ a (Nat.ne_of_lt htl) its.toArray, ⟨?_, ?_⟩, ?_, limp.extBut hx3 nPc, ?_, ?_, ?_⟩
    · have e9 : (s1.heap.push o).get? s1.heap.objs.size = some o := Heap.get?_push_size _ (by rw [← eo]; rfl)
      have e10 := hx3 _ _ (fun z => Nat.ne_of_lt hPl z.symm) e9
      subst eo
      exact ⟨_, e10, rfl, rfl⟩
    · obtain ⟨o', e', r'⟩ := ht
      exact ⟨o', toH3 _ _ ltA e', r'⟩
    · intro b hb
      rcases List.mem_cons.mp hb with z | z
      · rw [z]
        exact itl
      · rw [List.mem_singleton.mp z]
        exact Nat.lt_trans htl itl
    · intro z
      exact Nat.ne_of_lt ltC (List.mem_singleton.mp z)
    · intro href hhref
      refine ⟨fun A' E' i v s₂ m₂ hA _ _ _ hn hmv hk => ?_, fun A' E' i v s₂ m₂ hA hdp _ hv _ hn hmv hk => ?_⟩
      · simp only [List.forIn_nil]
        exact wpAny_pure ⟨rfl, kp_tk _ _⟩
      · have hv' : its[i]? = some v := by
          rw [← hv]
          simp
        obtain ⟨hi1, _⟩ := List.getElem?_eq_some_iff.mp hv'
        have hi2 : i < xs.length := by omega
        have hi3 : i < bs.length := by omega
        obtain ⟨u, hu, ru⟩ := rv.get (List.getElem?_eq_getElem hi2)
        rw [hv'] at hu
        cases hu
        have hold : ∀ b u, b ≠ P → s1.heap.get? b = some u → s₂.heap.get? b = some u := fun b u hb e => by
          have hl := Heap.lt_size e
          refine hk b (List.mem_range.mpr (Nat.lt_trans hl itl)) (fun z => ?_) u (hhref b u (toH3 b u hb e))
          exact Nat.ne_of_lt hl (List.mem_singleton.mp z)
        have hmod : Mod X.K X.mg s₂.heap := mod_ext I1.mod fun b u e => hold b u (fun z => by
          have n := (I1.bs b u e).2
          rw [z, hP] at n
          cases n) (I1.bk b u e)
        refine wpAny_mono (hel pins σ H1 s1 _ v bs[i] I1 ru (hC i _ _ (List.getElem?_eq_getElem hi2) (List.getElem?_eq_getElem hi3)) (genEnv scope (cloFrom X.env.cells scope.names []) h3.objs.size code builtinsNs X.env) rfl rfl rfl A' E' s₂ hA hdp hmod ⟨hold, m₂, hn, hmv⟩) (fun r t q => ?_) fun _ _ z => z
        exact ⟨⟨_, List.getElem?_eq_getElem hi3, q.1⟩, q.2⟩
    · intro g h5 tk5 gs hgb hag hsz5 hk5 W5 hat
      simp only [GxR.passing_true, List.length_range] at W5
      have W6 := W5.in4_1
      refine Calls.spliced_nil (call_all_walkS (W6.self 0 _ _ _ hat ⟨g, _, _, _, _, _, _, fun j => (bs[j]?).getD false, rfl, W6, hat, ?_, fun s' hmv => ?_⟩))
      · intro j r sj Qj Ej hr' hQj
        obtain ⟨i, hij, b, hb, rfl⟩ := hr'
        obtain ⟨hj, ej⟩ := List.getElem?_eq_some_iff.mp hij
        rw [List.getElem_range] at ej
        subst ej
        have hQ2 : Qj ((bs[j]?).getD false) sj := hQj
        rw [hb] at hQ2
        exact wpAny_truthy_bool hQ2
      · have nw : ∀ b u, s1.heap.get? b = some u → b ∉ h3.objs.size :: [s1.heap.objs.size] := fun b u e hb => by
          have hl := Heap.lt_size e
          rcases List.mem_cons.mp hb with z | z
          · rw [z] at hl
            exact absurd (Nat.lt_trans itl hl) (Nat.lt_irrefl _)
          · rw [List.mem_singleton.mp z] at hl
            exact Nat.lt_irrefl _ hl
        have J := GxR.inv_tab (more := more) (h' := s'.heap) (g' := s'.gens) (d' := s'.drawn) (t' := s'.toks) I1 hP (fun b u hb e => hmv.heap b u (nw b u e) (hk5 b u (toH3 b u hb e)))
          (hmv.heap P _ (nw P _ hPs) (hk5 P _ hP3)) (AllBare.movedS (I1.bare.push hgb) hmv)
        rw [GxR.sh_eta s1 s' hmv.os] at J
        refine ⟨.bl (bs.all fun b => b), upd H1 P (.tbl (ps ++ more)), J, ?_, q1 _ ⟨⟨ps ++ more, upd_same, htr3⟩, fun b hb => upd_ne hb⟩⟩
        have e11 : its.toArray.size = bs.length := by
          rw [List.size_toArray]
          omega
        rw [e11, all_get]
        rfl
/-! ### heaps -/
theorem same_upd {H : Hp} {p : Addr} {o : HO} (h : H p = none) : Same H (upd H p o) := fun b x e => by
  rw [upd_ne (ne_of_none e h)]
  exact e
theorem Same.tup {K : PySem.W.Frag} {H H' : Hp} {a : Addr} {xs : List V} (e : Same H H') (h : SqT K H a xs) : SqT K H' a xs := by
  rcases h with (h | ⟨o, h⟩) | h
  · exact .inl (.inl (e _ _ h))
  · exact .inl (.inr ⟨o, e _ _ h⟩)
  · exact .inr h
/-- the source of draws: at p the list of the cells' list at l, a number held and a seed -/
def Sc (p l : Addr) (H : Hp) : Prop := p ≠ l ∧ ∃ (ns : List Int) (a b : Int), H p = some (.lst [.ref l, .int a, .int b]) ∧ H l = some (.lst (ns.map V.int)) ∧ 0 ≤ a ∧ 0 ≤ b ∧ b < 998244353
/-- but for p and l all that was tracked is as it was -/
def Kp (p l : Addr) (H H' : Hp) : Prop := ∀ b o, b ≠ p → b ≠ l → H b = some o → H' b = some o
theorem Kp.refl {p l : Addr} (H : Hp) : Kp p l H H := fun _ _ _ _ e => e
theorem Kp.trans {p l : Addr} {H H1 H2 : Hp} (a : Kp p l H H1) (b : Kp p l H1 H2) : Kp p l H H2 := fun c o h1 h2 e => b c o h1 h2 (a c o h1 h2 e)
theorem Kp.upd {p l q : Addr} {o : HO} {H H1 : Hp} (a : Kp p l H H1) (h : H1 q = none) : Kp p l H (L2.upd H1 q o) := fun c u h1 h2 e => same_upd h c u (a c u h1 h2 e)
theorem Kp.updp {p l : Addr} {o : HO} {H H1 : Hp} (a : Kp p l H H1) : Kp p l H (L2.upd H1 p o) := fun c u h1 h2 e => by
  rw [upd_ne h1]
  exact a c u h1 h2 e
theorem Kp.updl {p l : Addr} {o : HO} {H H1 : Hp} (a : Kp p l H H1) : Kp p l H (L2.upd H1 l o) := fun c u h1 h2 e => by
  rw [upd_ne h2]
  exact a c u h1 h2 e
theorem Sc.upd {p l q : Addr} {o : HO} {H : Hp} (a : Sc p l H) (h : H q = none) : Sc p l (L2.upd H q o) := by
  obtain ⟨n, ns, x, y, e1, e2, r⟩ := a
  exact ⟨n, ns, x, y, same_upd h _ _ e1, same_upd h _ _ e2, r⟩
theorem Sc.same {p l : Addr} {H H' : Hp} (a : Sc p l H) (h : Same H H') : Sc p l H' := by
  obtain ⟨n, ns, x, y, e1, e2, r⟩ := a
  exact ⟨n, ns, x, y, h _ _ e1, h _ _ e2, r⟩
theorem Kp.of_same {p l : Addr} {H H' : Hp} (h : Same H H') : Kp p l H H' := fun b o _ _ e => h b o e
theorem Sc.ne {p l b : Addr} {H : Hp} (a : Sc p l H) (h : H b = none) : b ≠ p ∧ b ≠ l := by
  obtain ⟨n, ns, x, y, e1, e2, r⟩ := a
  exact ⟨(ne_of_none e1 h).symm, (ne_of_none e2 h).symm⟩
/-- what was free behind is free ahead -/
theorem Kp.free {p l b : Addr} {H H' : Hp} (k : Kp p l H H') (a : Sc p l H') (h : H' b = none) : H b = none := by
  cases q : H b with
  | none => rfl
  | some o =>
    have n := a.ne h
    rw [k b o n.1 n.2 q] at h
    cases h
theorem dpAll_int {K : PySem.W.Frag} {H : Hp} : ∀ ns : List Int, DpAll K H (ns.map V.int) (ns.map PyData.int)
  | [] => .nil
  | n :: r => .cons (.int n) (dpAll_int r)
theorem canLay_ints : ∀ ns : List Int, PyData.canLayAll0 (ns.map PyData.int) = true
  | [] => by simp [PyData.canLayAll0]
  | n :: r => by
    have ih := canLay_ints r
    simp only [List.map_cons, PyData.canLayAll0, PyData.canLay0, Bool.true_and]
    exact ih
theorem depth_ints : ∀ ns : List Int, PyData.depthAll (ns.map PyData.int) ≤ 1
  | [] => by simp [PyData.depthAll]
  | n :: r => by
    have ih := depth_ints r
    simp only [List.map_cons, PyData.depthAll, PyData.depth]
    omega
theorem shaped_ints (ns : List Int) : SeqAt.shaped (.list (ns.map PyData.int)) = true := by
  have h1 := canLay_ints ns
  have h2 := depth_ints ns
  unfold SeqAt.shaped
  rw [show PyData.canLay0 (.list (ns.map PyData.int)) = PyData.canLayAll0 (ns.map PyData.int) by simp only [PyData.canLay0], h1, Bool.true_and]
  refine decide_eq_true ?_
  rw [show PyData.depth (.list (ns.map PyData.int)) = PyData.depthAll (ns.map PyData.int) + 1 by simp only [PyData.depth]]
  omega
theorem eqv_nil : ∀ ns : List Int, PyData.eqv (.list (ns.map PyData.int)) (.list []) = ns.isEmpty
  | [] => by simp [PyData.eqv, PyData.eqvAll]
  | n :: r => by simp [PyData.eqv, PyData.eqvAll]
theorem map_get {ns : List Int} {i : Nat} {x : V} (h : (ns.map V.int)[i]? = some x) : ∃ n, ns[i]? = some n ∧ x = .int n := by
  rw [List.getElem?_map] at h
  cases e : ns[i]? with
  | none =>
    rw [e] at h
    cases h
  | some n =>
    rw [e] at h
    exact ⟨n, rfl, (Option.some.inj h).symm⟩
theorem lg {m : Int} (h : 0 < m) (h2 : m ≤ 1000000) : m.natAbs.log2 < 9000 := Nat.lt_of_lt_of_le (PySem.Flt.log2_lt_of (by decide : 0 < 64) (by omega)) (by decide)
/-- what the top has left of each def's table -/
def TabsOf (q : Program) (mg : Str → Option Value) (h : Heap) : Prop := ∀ e ∈ recsOf q, ∃ a o fd c P, mg e.name = some (.ref a) ∧ h.get? a = some o ∧ o.data = .func fd ∧ fd.code = .ref c ∧ h.IsCode c P #[] ∧ h.TableAt c P #[]
/-- the end of a law that reaches defs with generator expressions -/
theorem walk_tab {l : PySem.W.OpenLaw} {n k : Nat} {q : Program} {loose : List Str} {XP : (Str → Option Value) → Heap → Prop} {YP : World → Heap → Prop} {d : DefRec} {K : Params → PySem.W.Frag} {x : Str}
    (hn : l.most = some n) (hn2 : n ≤ sizeLine) (hdf : d.params.defaults = []) (hr : Room k callerA) (hY : ∀ (w : World) (h : Heap), YP w h → (K w.params).In h)
    (F : ∀ (w : World) (mg : Str → Option Value) (fa : Addr) (h : Heap), (K w.params).In h → h.Ns mainGlobals mg → mg d.name = some (.ref fa) → TabsOf q mg h → LamX.LawAtS l w (K w.params) CX0 k n x mg fa h) :
    PySem.W.WalkO q loose XP YP l.row.toRowW d [] (fun f vs => PySem.call f vs) := by
  refine Att.attach_callB hn hdf fun w t0 t1 mg mb fa o pm cd doc a vs ns G Y _ _ _ hmg hobj hints hlen hbits hg => ?_
  obtain ⟨fd, cs, sp, hT, nT, C, hb, hsp, hF⟩ := F w mg fa _ (hY w _ Y) G.T.g hmg G.T.tab
  refine LamX.law_callTs (hY w _ Y) G.T.g G.T.b G.T.builtins G.T.nolimit hg hT nT C G.T.bmain hobj hints ?_ hr hF hb ?_ fun _ _ _ z => z
  · exact Nat.le_trans hlen hn2
  · exact fun H hH hS => hsp H a ns hlen hbits hH hS
/-- the table of the def f, whose code object the head has written out -/
theorem tab_of {q : Program} {mg : Str → Option Value} {h : Heap} {K : PySem.W.Frag} {f c P : Addr} {x qual : Str} {params : Arguments} {body : List Stmt} {scope : Scope} {oc kV doc pm ct e : Value} {od an dd : Option Addr} {osl sl : Array (Option Value)} {vs : Array Value} (X : K.In h) (T : TabsOf q mg h)
    (hr : ((recsOf q).any fun e => e.name == x) = true) (hf : mg x = some (.ref f)) (lk : K.lookup f = some ⟨oc, od, .func (PySem.W.fnOf x qual params body scope .none kV doc pm an (.ref c) ct), osl⟩)
    (lc : K.lookup c = some ⟨e, dd, .fields vs, sl⟩) (h11 : vs[11]? = some (.ref P)) : h.get? P = some { cls := .none, data := .fields #[] } ∧ PySem.W.CodeHd h c P := by
  obtain ⟨r, hm, hn⟩ := List.any_eq_true.mp hr
  have hn' : r.name = x := beq_iff_eq.mp hn
  obtain ⟨a, o, fd, c', P', h1, h2, h3, h4, h5, h6⟩ := T r hm
  rw [hn', hf] at h1
  cases h1
  rw [X _ _ lk] at h2
  cases h2
  cases h3
  cases h4
  have hd := PySem.W.CodeHd.of h5 h6
  obtain ⟨⟨oc', vc, e1, _, e3, e4⟩, hP⟩ := h6
  rw [X _ _ lc] at e1
  cases e1
  cases e3
  rw [h11] at e4
  cases e4
  exact ⟨hP, hd⟩
def topS (i : Nat) : Stmt := PySem.Challenge.pw_traymap_k02_what_is_a_filling.main.body.getD i (.Pass ⟨0, 0, 0, 0⟩)
abbrev sWhole : Stmt := topS 3
abbrev sPair : Stmt := topS 4
abbrev sTray : Stmt := topS 5
abbrev sIsCrate : Stmt := topS 6
abbrev sIsFill : Stmt := topS 7
abbrev sSource : Stmt := topS 9
abbrev sNext : Stmt := topS 10
abbrev sCrate : Stmt := topS 11
abbrev sAny : Stmt := topS 12
abbrev sThing : Stmt := topS 13
abbrev sDue : Stmt := topS 14
abbrev sLaw : Stmt := topS 15
theorem scWhole : FnScope ["thing"] ["thing"] (defScope sWhole) := ⟨rfl, rfl, rfl, by decide +kernel, rfl, by decide +kernel, by decide +kernel⟩
theorem scPair : FnScope ["thing"] ["thing"] (defScope sPair) := ⟨rfl, rfl, rfl, by decide +kernel, rfl, by decide +kernel, by decide +kernel⟩
theorem scTray : FnScope ["thing"] ["thing"] (defScope sTray) := ⟨rfl, rfl, rfl, by decide +kernel, rfl, by decide +kernel, by decide +kernel⟩
theorem scIsCrate : FnScope ["thing"] ["thing"] (defScope sIsCrate) := ⟨rfl, rfl, rfl, by decide +kernel, rfl, by decide +kernel, by decide +kernel⟩
theorem scIsFill : FnScope ["crate", "thing", "tray", "things"] ["crate", "thing"] (defScope sIsFill) := ⟨rfl, rfl, rfl, by decide +kernel, rfl, by decide +kernel, by decide +kernel⟩
theorem scSource : FnScope ["script", "seed", "cell"] ["script"] (defScope sSource) := ⟨rfl, rfl, rfl, by decide +kernel, rfl, by decide +kernel, by decide +kernel⟩
theorem scNext : FnScope ["source", "many", "cell", "drawn"] ["source", "many"] (defScope sNext) := ⟨rfl, rfl, rfl, by decide +kernel, rfl, by decide +kernel, by decide +kernel⟩
theorem scCrate : FnScope ["source", "size", "most", "k"] ["source"] (defScope sCrate) := ⟨rfl, rfl, rfl, by decide +kernel, rfl, by decide +kernel, by decide +kernel⟩
theorem scAny : FnScope ["source", "way", "inner", "k"] ["source"] (defScope sAny) := ⟨rfl, rfl, rfl, by decide +kernel, rfl, by decide +kernel, by decide +kernel⟩
theorem scThing : FnScope ["source", "crate", "way", "tray", "wells", "things", "more", "size", "odd", "k"] ["source", "crate"] (defScope sThing) := ⟨rfl, rfl, rfl, by decide +kernel, rfl, by decide +kernel, by decide +kernel⟩
theorem scDue : FnScope ["crate", "thing", "tray", "things"] ["crate", "thing"] (defScope sDue) := ⟨rfl, rfl, rfl, by decide +kernel, rfl, by decide +kernel, by decide +kernel⟩
theorem scLaw : FnScope ["script", "source", "crate", "turn", "thing", "due", "found"] ["script"] (defScope sLaw) := ⟨rfl, rfl, rfl, by decide +kernel, rfl, by decide +kernel, by decide +kernel⟩
/-! ### things -/
def whole : V → Bool
  | .int _ => true
  | _ => false
def okItem : V → Bool
  | .int i => decide (0 ≤ i) && decide (i ≤ 12)
  | _ => false
/-- None, a truth, a number, a text, a list -/
def NoTup (H : Hp) (x : V) : Prop := (∃ i, x = .int i) ∨ (∃ b, x = .bl b) ∨ x = .non ∨ (∃ z, x = .str z) ∨ ∃ a ys, x = .ref a ∧ H a = some (.lst ys)
def Item (H : Hp) (x : V) : Prop := NoTup H x ∨ ∃ a ys, x = .ref a ∧ H a = some (.tup ys)
theorem notup_ty {K : PySem.W.Frag} {H : Hp} {x : V} (h : NoTup H x) : ∃ (t : String) (bi bb : Bool), TyX K H x (.type t) ∧ kitB t "tuple" = some false ∧ kitB t "int" = some bi ∧ kitB t "bool" = some bb ∧ (bi && !bb) = whole x := by
  rcases h with ⟨i, rfl⟩ | ⟨b, rfl⟩ | rfl | ⟨z, rfl⟩ | ⟨a, ys, rfl, e⟩
  · exact ⟨"int", true, false, .base (.int i), by decide +kernel, by decide +kernel, by decide +kernel, rfl⟩
  · exact ⟨"bool", true, true, .base (.bl b), by decide +kernel, by decide +kernel, by decide +kernel, rfl⟩
  · exact ⟨"NoneType", false, false, .base .non, by decide +kernel, by decide +kernel, by decide +kernel, rfl⟩
  · exact ⟨"str", false, false, .base (.str z), by decide +kernel, by decide +kernel, by decide +kernel, rfl⟩
  · exact ⟨"list", false, false, .base (.lst e), by decide +kernel, by decide +kernel, by decide +kernel, rfl⟩
theorem item_ty {K : PySem.W.Frag} {H : Hp} {x : V} (h : Item H x) : ∃ (t : String) (bi bb : Bool), TyX K H x (.type t) ∧ kitB t "int" = some bi ∧ kitB t "bool" = some bb ∧ (bi && !bb) = whole x := by
  rcases h with h | ⟨a, ys, rfl, e⟩
  · obtain ⟨t, bi, bb, h1, _, r⟩ := notup_ty (K := K) h
    exact ⟨t, bi, bb, h1, r⟩
  · exact ⟨"tuple", false, false, .base (.tup e), by decide +kernel, by decide +kernel, rfl⟩
theorem whole_int {x : V} (h : whole x = true) : ∃ i, x = .int i := by
  cases x <;> first | exact ⟨_, rfl⟩ | cases h
theorem NoTup.keep {H H' : Hp} {x : V} (h : NoTup H x) (k : ∀ a ys, x = .ref a → H a = some (.lst ys) → H' a = some (.lst ys)) : NoTup H' x := by
  rcases h with h | h | h | h | ⟨a, ys, e, q⟩
  · exact .inl h
  · exact .inr (.inl h)
  · exact .inr (.inr (.inl h))
  · exact .inr (.inr (.inr (.inl h)))
  · exact .inr (.inr (.inr (.inr ⟨a, ys, e, k a ys e q⟩)))
theorem Item.keep {H H' : Hp} {x : V} (h : Item H x) (k : ∀ a o, x = .ref a → H a = some o → H' a = some o) : Item H' x := by
  rcases h with h | ⟨a, ys, e, q⟩
  · exact .inl (h.keep fun a ys e q => k a _ e q)
  · exact .inr ⟨a, ys, e, k a _ e q⟩
theorem item_kit {X : Cx} {pins : List (Addr × Obj)} {σ : L2.St} {H : Hp} {s : Shared} {x : V} {u : Value} {P : Addr} {ps : Array Value} (I : Inv X pins σ H s) (r : RelV x u) (it : Item H x) (hP : H P = some (.tbl ps)) :
    ∃ (t : String) (Hk : Heap → Prop) (bi bb : Bool), PySem.W.KitX X.K u (.type t) Hk ∧ (∀ h : Heap, (∀ a o, a ≠ P → s.heap.get? a = some o → h.get? a = some o) → Hk h) ∧ u ≠ .builtin "__main__.__loader__#opaque" ∧ kitB t "int" = some bi ∧ kitB t "bool" = some bb ∧ (bi && !bb) = whole x := by
  have nP : ∀ {a : Addr} {o : HO}, H a = some o → (∀ q, o ≠ .tbl q) → a ≠ P := fun {a o} e n z => by
    rw [z, hP] at e
    exact n ps (Option.some.inj e).symm
  rcases it with (⟨i, rfl⟩ | ⟨b, rfl⟩ | rfl | ⟨z, rfl⟩ | ⟨a, ys, rfl, e⟩) | ⟨a, ys, rfl, e⟩
  · obtain ⟨t, rfl⟩ := r
    exact ⟨"int", _, true, false, PySem.W.kitx_int, fun _ _ => True.intro, (fun q => by cases q), by decide +kernel, by decide +kernel, rfl⟩
  · cases r
    exact ⟨"bool", _, true, true, PySem.W.kitx_bool, fun _ _ => True.intro, (fun q => by cases q), by decide +kernel, by decide +kernel, rfl⟩
  · cases r
    exact ⟨"NoneType", _, false, false, PySem.W.kitx_none, fun _ _ => True.intro, (fun q => by cases q), by decide +kernel, by decide +kernel, rfl⟩
  · obtain ⟨t, rfl⟩ := r
    exact ⟨"str", _, false, false, PySem.W.kitx_str, fun _ _ => True.intro, (fun q => by cases q), by decide +kernel, by decide +kernel, rfl⟩
  · cases r
    obtain ⟨_, _, n, _, h1⟩ := (show ObjOk X.prog X.w H s.heap a (.lst ys) from I.hok a _ e)
    exact ⟨"list", _, false, false, PySem.W.kitx_list, fun h k => ⟨_, k a _ (nP e fun q z => by cases z) h1, rfl⟩, (fun q => by cases q), by decide +kernel, by decide +kernel, rfl⟩
  · cases r
    obtain ⟨_, _, _, o, h1, h2, _⟩ := (show ObjOk X.prog X.w H s.heap a (.tup ys) from I.hok a _ e)
    exact ⟨"tuple", _, false, false, PySem.W.kitx_tuple, fun h k => ⟨o, k a _ (nP e fun q z => by cases z) h1, h2⟩, (fun q => by cases q), by decide +kernel, by decide +kernel, rfl⟩
theorem stays_ns {hm : Heap → Prop} {L : Addr} {x : Str} {u : Value} (st : Stays hm) : Stays (fun h => hm h ∧ ∃ m, h.Ns L m ∧ m x = some u) := fun h h' k q => by
  obtain ⟨q1, m, q2, q3⟩ := q
  exact ⟨st h h' k q1, m, q2.keeps k, q3⟩
theorem stays_old {P : Addr} {h0 : Heap} : Stays (fun h => ∀ a o, a ≠ P → h0.get? a = some o → h.get? a = some o) := fun h h' k q a o n e => k a o (q a o n e)
section
variable {prog : Program} {w : World} {K : PySem.W.Frag} {mg : Str → Option Value} {D : Nat} {env : Env} {hm : Heap → Prop}
/-- is_whole(a), whatever stands around -/
theorem lo_whole {fW : Addr} {fdW : FuncData} {p0 p1 pos : Pos} {y : Str} {u : Value} {t : String} {Hk : Heap → Prop} {bi bb : Bool} (F : Fun K "is_whole" "is_whole" sWhole fW fdW) (bW : Binds K fdW ["thing"] []) (gW : mg "is_whole" = some (.ref fW))
    (mi : mg "isinstance" = none) (mint : mg "int" = none) (mbool : mg "bool" = none) (st : Stays hm) (hk : env.scope.kind = .function) (hg : env.globals = mainGlobals) (lf : env.kindOf "is_whole" = some .globalImplicit) (hD : D < recursionLimit)
    (ha : Lo prog w K mg D env hm (.Name y p1) (fun r => r = u)) (Z : PySem.W.KitX K u (.type t) Hk) (hK : ∀ h, hm h → Hk h) (hx : u ≠ .builtin "__main__.__loader__#opaque") (e1 : kitB t "int" = some bi) (e2 : kitB t "bool" = some bb) :
    Lo prog w K mg D env hm (.Call (.Name "is_whole" p0) [.Name y p1] [] pos) (fun r => r = .bool (bi && !bb)) := by
  obtain ⟨oc, od, kV, doc, pm, an, cdv, ct, osl, rfl, lk, hcd⟩ := F.ex
  refine lo_call st hk hg lf gW hD lk hcd F.kp scWhole bW rfl ha fun env' hs hg' hb' => ?_
  have hk' : env'.scope.kind = .function := by rw [hs]; rfl
  have li : env'.kindOf "isinstance" = some .globalImplicit := by show env'.scope.names.lookup _ = _; rw [hs]; rfl
  have l1 : env'.kindOf "int" = some .globalImplicit := by show env'.scope.names.lookup _ = _; rw [hs]; rfl
  have l2 : env'.kindOf "bool" = some .globalImplicit := by show env'.scope.names.lookup _ = _; rw [hs]; rfl
  have l3 : env'.kindOf "thing" = some .local := by show env'.scope.names.lookup _ = _; rw [hs]; rfl
  refine lo_and (c := bi) (stays_ns st) (lo_isi (stays_ns st) hk' hg' hb' li mi l1 mint (by decide +kernel) (lo_name hk' l3 fun h q => q.2) Z (fun h q => hK h q.1) (kit_ty e1) hx) (fun e => ?_) fun e => lo_one ((lo_not (lo_isi (stays_ns st) hk' hg' hb' li mi l2 mbool (by decide +kernel) (lo_name hk' l3 fun h q => q.2) Z (fun h q => hK h q.1) (kit_ty e2) hx)).imp fun r q => ?_)
  · rw [e]
    rfl
  · rw [q, e]
    rfl
end
/-- is_tray(wells) as the element of a generator expression -/
theorem elt_tray {X : Cx} {P fW fT : Addr} {fdW fdT : FuncData} {scope : Scope} {p0 p1 pos : Pos} {tw : Tok} {k : Nat} (hr : Room (k + 2) X.A) (hk : scope.kind = .function) (l1 : scope.names.lookup ("is_tray" : Str) = some .globalImplicit) (l2 : scope.names.lookup ("wells" : Str) = some .local)
    (FW : Fun X.K "is_whole" "is_whole" sWhole fW fdW) (bW : Binds X.K fdW ["thing"] []) (gW : X.mg "is_whole" = some (.ref fW)) (FT : Fun X.K "is_tray" "is_tray" sTray fT fdT) (bT : Binds X.K fdT ["thing"] []) (gT : X.mg "is_tray" = some (.ref fT))
    (gM : X.mg "MOST_WELLS" = some (.int 12 tw)) (mi : X.mg "isinstance" = none) (mint : X.mg "int" = none) (mbool : X.mg "bool" = none) :
    EltOk X P scope "wells" (.Call (.Name "is_tray" p0) [.Name "wells" p1] [] pos) (fun H v b => Item H v ∧ b = okItem v ∧ ∃ ps, H P = some (.tbl ps)) := by
  intro pins σ H s v u b I r hC cenv hs hg hb
  obtain ⟨it, rfl, ps, hP⟩ := hC
  obtain ⟨t, Hk, bi, bb, Z, hK, hx, e1, e2, e3⟩ := item_kit I r it hP
  have hdp := hr.dp
  obtain ⟨oc, od, kV, doc, pm, an, cdv, ct, osl, rfl, lk, hcd⟩ := FT.ex
  have st := stays_ns (L := cenv.locals) (x := "wells") (u := u) (stays_old (P := P) (h0 := s.heap))
  refine lo_call st (by rw [hs]; exact hk) (hg.trans I.ok.glob) (by show cenv.scope.names.lookup _ = _; rw [hs]; exact l1) gT (by omega) lk hcd FT.kp scTray bT rfl
    (lo_name (by rw [hs]; exact hk) (by show cenv.scope.names.lookup _ = _; rw [hs]; exact l2) fun h q => q.2) fun env' hs' hg' hb' => ?_
  have hk' : env'.scope.kind = .function := by rw [hs']; rfl
  have l3 : env'.kindOf "thing" = some .local := by show env'.scope.names.lookup _ = _; rw [hs']; rfl
  have l4 : env'.kindOf "is_whole" = some .globalImplicit := by show env'.scope.names.lookup _ = _; rw [hs']; rfl
  have l5 : env'.kindOf "MOST_WELLS" = some .globalImplicit := by show env'.scope.names.lookup _ = _; rw [hs']; rfl
  refine lo_and (c := whole v) (stays_ns st) ((lo_whole FW bW gW mi mint mbool (stays_ns st) hk' hg' l4 (by omega) (lo_name hk' l3 fun h q => q.2) Z (fun h q => hK h q.1.1) hx e1 e2).imp fun r q => ?_) (fun e => ?_) fun e => lo_one ?_
  · rw [q, e3]
  · cases v <;> first | rfl | cases e
  · obtain ⟨i, rfl⟩ := whole_int e
    obtain ⟨tk, rfl⟩ := r
    exact (lo_chain (stays_ns st) lo_int ((lo_name hk' l3 fun h q => q.2).imp fun r q => ⟨tk, q⟩) ((lo_glob hk' l5 hg' gM).imp fun r q => ⟨tw, q⟩)).imp fun r q => q
/-! ### is_crate -/
def Thing (H : Hp) (v : V) : Prop := (∃ a xs, v = .ref a ∧ H a = some (.tup xs) ∧ ∀ x ∈ xs, Item H x) ∨ NoTup H v
def CrB (H : Hp) (v : V) (b : Bool) : Prop := (∃ a xs, v = .ref a ∧ H a = some (.tup xs) ∧ b = (decide (xs.length ≤ 60) && xs.all okItem)) ∨ (NoTup H v ∧ b = false)
def spIsCrate (P : Addr) : Sp := fun vs H Q _ => ∃ v, vs = [v] ∧ Thing H v ∧ GxR.TabG H P ∧ ∀ b H', CrB H v b → GxR.Tabbed P H H' → Q (.bl b) H'
section
variable {P : Program} {w : World} {K : PySem.W.Frag} {mg : Str → Option Value} {base : Heap}
theorem ok_iscrate {f fW fT c Pt : Addr} {fdW fdT : FuncData} {oc kV doc pm ct : Value} {od an : Option Addr} {osl : Array (Option Value)} {tw tt : Tok} {k : Nat}
    (lk : K.lookup f = some ⟨oc, od, .func (PySem.W.fnOf "is_crate" "is_crate" (defArgs sIsCrate) (defBody sIsCrate) (defScope sIsCrate) .none kV doc pm an (.ref c) ct), osl⟩) (hcd : PySem.W.codeIn K (.ref c) "is_crate" = true) (TB : GxR.TabB base mg c Pt)
    (FW : Fun K "is_whole" "is_whole" sWhole fW fdW) (bW : Binds K fdW ["thing"] []) (gW : mg "is_whole" = some (.ref fW)) (FT : Fun K "is_tray" "is_tray" sTray fT fdT) (bT : Binds K fdT ["thing"] []) (gT : mg "is_tray" = some (.ref fT))
    (gM : mg "MOST_WELLS" = some (.int 12 tw)) (gMT : mg "MOST_TRAYS" = some (.int 60 tt)) (mi : mg "isinstance" = none) (mint : mg "int" = none) (mbool : mg "bool" = none) (mtup : mg "tuple" = none) (mlen : mg "len" = none) (mall : mg "all" = none) :
    FnOk P w K mg base CX0 (k + 2 + 1) f (PySem.W.fnOf "is_crate" "is_crate" (defArgs sIsCrate) (defBody sIsCrate) (defScope sIsCrate) .none kV doc pm an (.ref c) ct) ["thing"] (spIsCrate Pt) := by
  refine fn_of lk hcd scIsCrate (fun vs H Q E h => ?_) (fun A outer s H vs Q E hr h => ?_)
  · obtain ⟨v, rfl, _⟩ := h
    rfl
  · obtain ⟨v, rfl, hv, hG, q⟩ := h
    refine ⟨_, PSs.nox (pss_cons (ps_if (PW.pt (pw_or (pt_not (pt_val (pe_callB call_isi (by rfl) mi (by decide +kernel) (pa_cons (pv 0) (pa_cons (pe_bltn (v := .ty "tuple") (by rfl) mtup (by decide +kernel) rfl) pa_nil)))))
        (pw_or1 (pt_cmpR op_gt (pe_callB call_len_seq (by rfl) mlen PySem.boot_len (pa_cons (pv 0) pa_nil)) (pe_glob (v := .int 60) rfl gMT ⟨_, rfl⟩) (nomark _)))))
        (pss_one (ps_ret pe_bl)) pss_nil)
      (pss_one (ps_ret (pe_allT (c := c) (P := Pt) hr rfl mall TB rfl ⟨rfl, rfl, by decide +kernel, rfl, rfl, fun y hy hf => absurd hf (by revert y; decide +kernel)⟩ (pv 0)
        (elt_tray hr rfl rfl rfl FW bW gW FT bT gT gM mi mint mbool) (fun _ => rfl))))), ?_⟩
    rcases hv with ⟨a, xs, rfl, ha, hxs⟩ | hv
    · refine ⟨.ref a, rfl, _, _, _, _, true, rfl, .ty "tuple", .base (.tup ha), kit_ty (by decide +kernel), _, rfl, ?_⟩
      refine iteF ?_
      refine ⟨.ref a, rfl, a, xs, rfl, .inr (SqT.of ha), _, _, rfl, rfl, _, rfl, ite2 (fun e => ?_) (fun e => ?_)⟩
      · have e' := of_decide_eq_true e
        refine q false H (.inl ⟨a, xs, rfl, ha, ?_⟩) ⟨hG, fun _ _ => rfl⟩
        rw [decide_eq_false (by omega), Bool.false_and]
      · have e' : ¬ ((60 : Int) < (xs.length : Int)) := fun z => e (decide_eq_true z)
        refine ⟨.ref a, rfl, a, xs, xs.map okItem, rfl, SqT.of ha, by rw [List.length_map], fun i x b h1 h2 => ?_, hG, fun H2 hT => ?_⟩
        · rw [List.getElem?_map, h1] at h2
          obtain ⟨ps, hP, _⟩ := hG
          exact ⟨hxs x (List.mem_of_getElem? h1), (Option.some.inj h2).symm, ps, hP⟩
        · refine q _ H2 (.inl ⟨a, xs, rfl, ha, ?_⟩) hT
          rw [decide_eq_true (by omega), Bool.true_and, List.all_map]
          rfl
    · obtain ⟨t, bi, bb, h1, h2, _⟩ := notup_ty (K := K) hv
      refine ⟨v, rfl, _, _, _, _, false, rfl, .ty "tuple", h1, kit_ty h2, _, rfl, ?_⟩
      refine iteT ?_
      exact q false H (.inr ⟨hv, rfl⟩) ⟨hG, fun _ _ => rfl⟩
end
section
variable {P : Program} {w : World} {K : PySem.W.Frag} {mg : Str → Option Value} {base : Heap}
/-! ### _law_next -/
def spNext : Sp := fun vs H Q _ => ∃ (p l : Addr) (m : Int), vs = [.ref p, .int m] ∧ Sc p l H ∧ 0 < m ∧ m.natAbs.log2 < 9000 ∧ ∀ r H', 0 ≤ r → r < m → Sc p l H' → Kp p l H H' → Q (.int r) H'
theorem ok_next {f : Addr} {fd : FuncData} {k : Nat} (F : Fun K "_law_next" "_law_next" sNext f fd) (mabs : mg "abs" = none) : FnOk P w K mg base CX0 (k + 1) f fd ["source", "many"] spNext := by
  refine F.ok scNext (fun vs H Q E h => ?_) (fun cdv A outer s H vs Q E hr h => ?_)
  · obtain ⟨p, l, m, rfl, _⟩ := h
    rfl
  · obtain ⟨p, l, m, rfl, hS, hm, hw, q⟩ := h
    refine ⟨_, C8.pss_cut (ps_if (PW.pt (pw_and (pt_cmpR op_eq (pe_ix ix_list (pv 0) pe_int (fun _ _ => rfl)) pe_int (nomark _)) (pw_and1 (pt_cmpR (op_neD hr.units) (pe_ix ix_list (pv 0) pe_int (fun _ _ => rfl)) (pe_lst pa_nil) (nomark _)))))
        (pss_cons (ps_set (i := 2) scNext.nd rfl (.inl rfl) (pe_bm PySem.F.plainAttrs_list PySem.F.slot_list_pop PySem.F.type_list_pop mt_popAt (pe_ix ix_list (pv 0) pe_int (fun _ _ => rfl)) (pa_cons pe_int pa_nil)))
        (pss_cons (ps_if (pt_cmpR op_lt (pe_callB call_abs (by rfl) mabs (by decide +kernel) (pa_cons (pv 2) pa_nil)) (pe_op op_pow pe_int pe_int) (nomark _)) (pss_one (ps_ret (pe_op op_mod (pv 2) (pv 1)))) pss_nil)
        (pss_one (ps_asg (pe_callB call_abs (by rfl) mabs (by decide +kernel) (pa_cons (pv 2) pa_nil)) (pg_sub (pv 0) pe_int set_list)))))
        pss_nil)
      (pss_cons (ps_if (pt_cmpR op_gt (pe_ix ix_list (pv 0) pe_int (fun _ _ => rfl)) pe_int (nomark _))
          (pss_cons (ps_set (i := 3) scNext.nd rfl (.inl rfl) (pe_op op_mod (pe_ix ix_list (pv 0) pe_int (fun _ _ => rfl)) (pv 1)))
          (pss_cons (ps_asg (pe_op op_fdivW (pe_ix ix_list (pv 0) pe_int (fun _ _ => rfl)) (pv 1)) (pg_sub (pv 0) pe_int set_list))
          (pss_one (ps_ret (pv 3))))) pss_nil)
      (pss_cons (ps_asg (pe_op op_mod (pe_op op_add (pe_op op_mul (pe_ix ix_list (pv 0) pe_int (fun _ _ => rfl)) (pe_ix ix_list (pv 0) pe_int (fun _ _ => rfl))) pe_int) pe_int) (pg_sub (pv 0) pe_int set_list))
      (pss_one (ps_ret (pe_op op_mod (pe_op op_fdiv (pe_ix ix_list (pv 0) pe_int (fun _ _ => rfl)) pe_int) (pv 1)))))), ?_⟩
    refine ⟨fun σ' H' => ∃ c2 c3, σ' = [some (.ref p), some (.int m), c2, c3] ∧ Sc p l H' ∧ Kp p l H H', ?_, fun σ' H' hM => ?_⟩
    · obtain ⟨npl, ns, a, b, hp, hl, ha, hb, hb2⟩ := hS
      -- source[1] == 0
      refine ⟨.ref p, rfl, p, _, 1, .int a, rfl, rfl, SqL.of hp, atI_nat (j := 1) rfl, rfl, _, rfl, ?_⟩
      by_cases e1 : ¬ a = 0
      · rw [decide_eq_false (show ¬ (V.int a = V.int 0) from fun z => e1 (V.int.inj z))]
        refine iteF (iteF ?_)
        exact ⟨_, _, rfl, ⟨npl, ns, a, b, hp, hl, ha, hb, hb2⟩, Kp.refl H⟩
      · have e1 : a = 0 := Decidable.of_not_not e1
        subst e1
        rw [decide_eq_true (show V.int 0 = V.int 0 from rfl)]
        refine iteT ?_
        -- source[0] != []
        refine ⟨.ref p, rfl, p, _, 0, .ref l, rfl, rfl, SqL.of hp, atI_nat (j := 0) rfl, Nat.zero_le _, fun e he => ?_⟩
        have hp1 : (upd H e (.lst [])) p = some (.lst [.ref l, .int 0, .int b]) := same_upd he _ _ hp
        have hl1 : (upd H e (.lst [])) l = some (.lst (ns.map V.int)) := same_upd he _ _ hl
        refine ⟨.list (ns.map PyData.int), .list [], .lst (SqL.of hl1) (dpAll_int ns), .lst (SqL.of upd_same) .nil, shaped_ints ns, shaped_ints [], _, rfl, ?_⟩
        rw [eqv_nil]
        cases ns with
        | nil =>
          refine iteF ?_
          exact ⟨_, _, rfl, ⟨npl, [], 0, b, hp1, hl1, ha, hb, hb2⟩, (Kp.refl H).upd he⟩
        | cons n r =>
          refine iteT ?_
          -- cell = source[0].pop(0)
          refine ⟨.ref p, rfl, p, _, 0, .ref l, rfl, rfl, SqL.of hp1, atI_nat (j := 0) rfl, .inl ⟨rfl, _, SqL.of hl1⟩, l, _, 0, 0, .int n, rfl, rfl, hl1, by decide, by decide, ?_, rfl, ?_⟩
          · unfold seqIndex?
            simp
          · -- abs(cell) < 10 ** 18
            have hp2 : (upd (upd H e (.lst [])) l (.lst (((n :: r).map V.int).eraseIdx 0))) p = some (.lst [.ref l, .int 0, .int b]) := by
              rw [upd_ne npl]
              exact hp1
            have hl2 : (upd (upd H e (.lst [])) l (.lst (((n :: r).map V.int).eraseIdx 0))) l = some (.lst (r.map V.int)) := upd_same
            have k2 : Kp p l H (upd (upd H e (.lst [])) l (.lst (((n :: r).map V.int).eraseIdx 0))) := ((Kp.refl H).upd he).updl
            refine ⟨.int n, rfl, n, rfl, _, _, rfl, rfl, ⟨by decide, by decide, by decide⟩, _, _, rfl, rfl, _, rfl, ite2 (fun _ => ?_) (fun _ => ?_)⟩
            · refine ⟨.int n, rfl, .int m, rfl, n, m, rfl, rfl, hm, ?_⟩
              exact q _ _ (Int.emod_nonneg _ (by omega)) (Int.emod_lt_of_pos _ hm) ⟨npl, r, 0, b, hp2, hl2, ha, hb, hb2⟩ k2
            · -- source[1] = abs(cell)
              refine ⟨.int n, rfl, n, rfl, .ref p, rfl, p, _, 1, 1, rfl, rfl, hp2, rfl, ?_⟩
              refine ⟨_, _, rfl, ⟨npl, r, if n < 0 then -n else n, b, upd_same, ?_, ?_, hb, hb2⟩, k2.updp⟩
              · rw [upd_ne npl.symm]
                exact hl2
              · split <;> omega
    · -- the rest
      obtain ⟨c2, c3, rfl, ⟨npl, ns, a, b, hp, hl, ha, hb, hb2⟩, k1⟩ := hM
      refine ⟨.ref p, rfl, p, _, 1, .int a, rfl, rfl, SqL.of hp, atI_nat (j := 1) rfl, _, _, rfl, rfl, _, rfl, ite2 (fun e => ?_) (fun e => ?_)⟩
      · -- drawn = source[1] % many
        refine ⟨.ref p, rfl, p, _, 1, .int a, rfl, rfl, SqL.of hp, atI_nat (j := 1) rfl, .int m, rfl, a, m, rfl, rfl, hm, ?_⟩
        -- source[1] = source[1] // many
        refine ⟨.ref p, rfl, p, _, 1, .int a, rfl, rfl, SqL.of hp, atI_nat (j := 1) rfl, .int m, rfl, a, m, rfl, rfl, ⟨hm, hw⟩, .ref p, rfl, p, _, 1, 1, rfl, rfl, hp, rfl, ?_⟩
        refine ⟨_, rfl, ?_⟩
        refine q _ _ (Int.emod_nonneg _ (by omega)) (Int.emod_lt_of_pos _ hm) ⟨npl, ns, a / m, b, upd_same, ?_, Int.ediv_nonneg ha (by omega), hb, hb2⟩ k1.updp
        rw [upd_ne npl.symm]
        exact hl
      · -- source[2] = (source[2] * source[2] + 1000003) % 998244353
        refine ⟨.ref p, rfl, p, _, 2, .int b, rfl, rfl, SqL.of hp, atI_nat (j := 2) rfl, .ref p, rfl, p, _, 2, .int b, rfl, rfl, SqL.of hp, atI_nat (j := 2) rfl, b, b, rfl, rfl, .inl ⟨by omega, by omega⟩, _, _, rfl, rfl, _, 998244353, rfl, rfl, (show (0 : Int) < 998244353 by decide), .ref p, rfl, p, _, 2, 2, rfl, rfl, hp, rfl, ?_⟩
        have hp3 : (upd H' p (.lst [.ref l, .int a, .int ((b * b + 1000003) % 998244353)])) p = some (.lst [.ref l, .int a, .int ((b * b + 1000003) % 998244353)]) := upd_same
        refine ⟨.ref p, rfl, p, _, 2, .int ((b * b + 1000003) % 998244353), rfl, rfl, SqL.of hp3, atI_nat (j := 2) rfl, _, _, rfl, rfl, ⟨by decide, by decide⟩, .int m, rfl, _, m, rfl, rfl, hm, ?_⟩
        refine q _ _ (Int.emod_nonneg _ (by omega)) (Int.emod_lt_of_pos _ hm) ⟨npl, ns, a, (b * b + 1000003) % 998244353, hp3, ?_, ha, by omega, by omega⟩ k1.updp
        rw [upd_ne npl.symm]
        exact hl
/-! ### _law_source -/
def spSource (K : PySem.W.Frag) : Sp := fun vs H Q _ => ∃ (a : Addr) (ns : List Int), vs = [.ref a] ∧ SqL K H a (ns.map V.int) ∧ ∀ p l H', Same H H' → H p = none → H l = none → Sc p l H' → Q (.ref p) H'
theorem ok_source {f : Addr} {fd : FuncData} {k : Nat} (F : Fun K "_law_source" "_law_source" sSource f fd) (ml : mg "list" = none) : FnOk P w K mg base CX0 (k + 1) f fd ["script"] (spSource K) := by
  refine F.ok scSource (fun vs H Q E h => ?_) (fun cdv A outer s H vs Q E hr h => ?_)
  · obtain ⟨a, ns, rfl, _⟩ := h
    rfl
  · obtain ⟨a, ns, rfl, hS, q⟩ := h
    refine ⟨_, pss_cons (ps_set (i := 1) scSource.nd rfl (.inl rfl) pe_int)
      (pss_cons (ps_for PassesOwn.never rfl (pi_list (pv 0)) (pg_name (i := 2) scSource.nd rfl (.inl rfl))
        (pss_one (ps_set (i := 1) scSource.nd rfl (.inl rfl) (pe_op op_mod (pe_op op_add (pe_op op_mul (pv 1) pe_int) (pv 2)) pe_int))))
      (pss_one (ps_ret (pe_lst (pa_cons (pe_callTy call_list_of (by rfl) ml (by decide +kernel) (pa_cons (pv 0) pa_nil)) (pa_cons pe_int (pa_cons (pv 1) pa_nil))))))), ?_⟩
    refine ⟨.ref a, rfl, a, rfl, ⟨_, hS⟩, for_list (K := K) (xs := ns.map V.int) (fun i σ H1 => ∃ c s2, σ = [some (.ref a), some (.int c), s2] ∧ 0 ≤ c ∧ c < 998244353 ∧ H1 = H) ⟨_, _, rfl, by decide, by decide, rfl⟩ (fun i σ H1 _ h => ?_) (fun i x σ H1 hx h => ?_) (fun σ H1 h => ?_)⟩
    · obtain ⟨c, s2, rfl, _, _, rfl⟩ := h
      exact hS
    · obtain ⟨c, s2, rfl, h1, h2, rfl⟩ := h
      obtain ⟨n, _, rfl⟩ := map_get hx
      refine ⟨_, rfl, c, _, rfl, rfl, .inl ⟨by omega, by omega⟩, _, rfl, _, n, rfl, rfl, _, 998244353, rfl, rfl, (show (0 : Int) < 998244353 by decide), ?_⟩
      exact ⟨_, _, rfl, Int.emod_nonneg _ (by decide), Int.emod_lt_of_pos _ (by decide), rfl⟩
    · obtain ⟨c, s2, rfl, h1, h2, rfl⟩ := h
      refine ⟨.ref a, rfl, a, _, rfl, .inl hS, fun l hl => ?_⟩
      refine ⟨_, rfl, (show 3 ≤ sizeLine by decide), fun p hp => ?_⟩
      have npl : p ≠ l := fun e => by
        rw [e, upd_same] at hp
        cases hp
      refine q p l _ ((same_upd hl).trans (same_upd hp)) ?_ hl ⟨npl, ns, 0, c, upd_same, ?_, by decide, h1, h2⟩
      · exact (same_upd hl).free hp
      · rw [upd_ne npl.symm, upd_same]
/-! ### _law_crate -/
def spCrate : Sp := fun vs H Q _ => ∃ (p l : Addr), vs = [.ref p] ∧ Sc p l H ∧ ∀ (t : Addr) (ws : List Int) H', ws.length ≤ 60 → (∀ x ∈ ws, 0 ≤ x ∧ x ≤ 12) → H t = none → H' t = some (.tup (ws.map V.int)) → Sc p l H' → Kp p l H H' → Q (.ref t) H'
theorem ok_crate {f fN : Addr} {fd fdN : FuncData} {k : Nat} (F : Fun K "_law_crate" "_law_crate" sCrate f fd) (FN : Fun K "_law_next" "_law_next" sNext fN fdN) (bN : Binds K fdN ["source", "many"] []) (gN : mg "_law_next" = some (.ref fN)) (mabs : mg "abs" = none) (mt : mg "tuple" = none) (mr : mg "range" = none) : FnOk P w K mg base CX0 (k + 1 + 1) f fd ["source"] spCrate := by
  have GN : FnOk P w K mg base CX0 (k + 1) fN fdN ["source", "many"] spNext := ok_next FN mabs
  refine F.ok scCrate (fun vs H Q E h => ?_) (fun cdv A outer s H vs Q E hr h => ?_)
  · obtain ⟨p, l, rfl, _⟩ := h
    rfl
  · obtain ⟨p, l, rfl, hS, q⟩ := h
    refine ⟨_, pss_cons (ps_set (i := 1) scCrate.nd rfl (.inl rfl) (pe_call GN hr (by rfl) gN FN.kp bN .nil pass0 (pa_cons (pv 0) (pa_cons pe_int pa_nil))))
      (pss_cons (ps_set (i := 2) scCrate.nd rfl (.inr rfl) (pe_op op_add pe_int (pe_call GN hr (by rfl) gN FN.kp bN .nil pass0 (pa_cons (pv 0) (pa_cons pe_int pa_nil)))))
      (C8.pss_cut (ps_if (pt_cmpR op_eq (pe_call GN hr (by rfl) gN FN.kp bN .nil pass0 (pa_cons (pv 0) (pa_cons pe_int pa_nil))) pe_int (nomark _))
          (pss_cons (ps_set (i := 1) scCrate.nd rfl (.inl rfl) (pe_op op_add (pv 1) (pe_call GN hr (by rfl) gN FN.kp bN .nil pass0 (pa_cons (pv 0) (pa_cons pe_int pa_nil))))) (pss_one (ps_set (i := 2) scCrate.nd rfl (.inr rfl) pe_int))) pss_nil)
      (pss_one (ps_ret (pe_callTy call_tuple_of (by rfl) mt (by decide +kernel) (pa_cons (pe_lc (own := [("k", 3)]) (g := gName 3) (tt := tYes) rfl scCrate.nd (pi_range1 rfl mr (pa_cons (pv 1) pa_nil)) (blkOk_by (N := ["source", "size", "most", "k"]) (sc := defScope sCrate) (by decide +kernel)) (fun _ _ _ _ _ => pg_name (i := 3) scCrate.nd rfl (Or.inl rfl)) (fun _ _ _ _ _ => pts_nil)
        (fun _ _ _ _ _ => pe_call GN hr (by rfl) gN FN.kp bN .nil pass0 (pa_cons (pv 0) (pa_cons (pe_op op_add (pv 2) pe_int) pa_nil)))) pa_nil)))))), ?_⟩
    refine ⟨.ref p, rfl, p, l, 5, rfl, hS, by decide, lg (by decide) (by decide), fun r1 H1 a1 b1 S1 k1 => ?_⟩
    refine ⟨.ref p, rfl, p, l, 4, rfl, S1, by decide, lg (by decide) (by decide), fun r2 H2 a2 b2 S2 k2 => ?_⟩
    refine ⟨1, r2, rfl, rfl, ?_⟩
    refine ⟨fun σ' H' => ∃ sz mo, σ' = [some (.ref p), some (.int sz), some (.int mo), none] ∧ 0 ≤ sz ∧ sz ≤ 60 ∧ 0 ≤ mo ∧ mo ≤ 12 ∧ Sc p l H' ∧ Kp p l H H', ?_, fun σ' H' hM => ?_⟩
    · refine ⟨.ref p, rfl, p, l, 8, rfl, S2, by decide, lg (by decide) (by decide), fun r3 H3 a3 b3 S3 k3 => ?_⟩
      refine ⟨rfl, _, rfl, ite2 (fun e => ?_) (fun e => ?_)⟩
      · refine ⟨.int r1, rfl, .ref p, rfl, p, l, 56, rfl, S3, by decide, lg (by decide) (by decide), fun r4 H4 a4 b4 S4 k4 => ?_⟩
        exact ⟨r1, r4, rfl, rfl, r1 + r4, 12, rfl, by omega, by omega, by decide, by decide, S4, ((k1.trans k2).trans k3).trans k4⟩
      · exact ⟨r1, 1 + r2, rfl, a1, by omega, by omega, by omega, S3, (k1.trans k2).trans k3⟩
    · obtain ⟨sz, mo, rfl, z0, z1, m0, m1, S5, k5⟩ := hM
      refine ⟨.int sz, rfl, sz, rfl, by omega, by omega, fun D hD => lc_range (lo := 0) (n := sz.toNat) (fun i H6 => ∃ ws : List Int, ws.length = i ∧ (∀ x ∈ ws, 0 ≤ x ∧ x ≤ 12) ∧ H6 D = some (.lst (ws.map V.int)) ∧ Sc p l H6 ∧ Kp p l H H6) ?_ (fun i H6 hi h6 => ?_) (fun H6 h6 => ?_)⟩
      · exact ⟨[], rfl, (fun x hx => by cases hx), upd_same, S5.upd hD, k5.upd hD⟩
      · obtain ⟨ws, hw, ha, e6, S6, k6⟩ := h6
        refine ⟨rfl, .ref p, rfl, .int mo, rfl, mo, 1, rfl, rfl, p, l, mo + 1, rfl, S6, by omega, lg (by omega) (by omega), fun r7 H7 a7 b7 S7 k7 => ?_⟩
        have nD := S5.ne hD
        have e7 : H7 D = some (.lst (ws.map V.int)) := k7 D _ nD.1 nD.2 e6
        refine ⟨_, e7, ?_, ws ++ [r7], ?_, ?_, ?_, ?_, ?_⟩
        · rw [List.length_map]
          exact small1000 (by omega)
        · rw [List.length_append, hw]
          rfl
        · intro x hx
          rcases List.mem_append.mp hx with hx | hx
          · exact ha x hx
          · rw [List.mem_singleton.mp hx]
            exact ⟨a7, by omega⟩
        · rw [upd_same, List.map_append]
          rfl
        · obtain ⟨n, ns, x, y, f1, f2, rr⟩ := S7
          refine ⟨n, ns, x, y, ?_, ?_, rr⟩
          · rw [upd_ne nD.1.symm]
            exact f1
          · rw [upd_ne nD.2.symm]
            exact f2
        · intro b o h1 h2 e
          have nb : b ≠ D := fun z => by
            rw [z] at e
            rw [(k5.free S5 hD)] at e
            cases e
          rw [upd_ne nb]
          exact k7 b o h1 h2 (k6 b o h1 h2 e)
      · obtain ⟨ws, hw, ha, e6, S6, k6⟩ := h6
        refine ⟨D, _, rfl, .inl ⟨SqL.of e6, fun t ht => ?_⟩⟩
        exact q t ws _ (by omega) ha (k6.free S6 ht) upd_same (S6.upd ht) (k6.upd ht)
end
/-! ### what is a filling -/
def TupLen (H : Hp) (y : V) (n : Int) (b : Bool) : Prop := (NoTup H y ∧ b = false) ∨ ∃ c ys, y = .ref c ∧ H c = some (.tup ys) ∧ b = decide ((ys.length : Int) = n)
def PairB (H : Hp) (ws : List Int) (x y : V) (b : Bool) : Prop := (whole x = false ∧ b = false) ∨ (∃ i, x = .int i ∧ (i < 0 ∨ (ws.length : Int) ≤ i) ∧ b = false) ∨ ∃ i n, x = .int i ∧ 0 ≤ i ∧ i < (ws.length : Int) ∧ ws[i.toNat]? = some n ∧ TupLen H y n b
def FlB (H : Hp) (ws : List Int) (v : V) (b : Bool) : Prop := (∃ a xs, v = .ref a ∧ H a = some (.tup xs) ∧ xs.length ≠ 2 ∧ b = false) ∨ (NoTup H v ∧ b = false) ∨ ∃ a x y, v = .ref a ∧ H a = some (.tup [x, y]) ∧ PairB H ws x y b
theorem notup_ref {H : Hp} {a : Addr} {ys : List V} (n : NoTup H (.ref a)) (e : H a = some (.tup ys)) : False := by
  rcases n with ⟨i, z⟩ | ⟨i, z⟩ | z | ⟨i, z⟩ | ⟨a', zs, z, e2⟩ <;> cases z
  rw [e] at e2
  cases e2
theorem tl_fn {H : Hp} {y : V} {n : Int} {b c : Bool} (h : TupLen H y n b) (h' : TupLen H y n c) : b = c := by
  rcases h with ⟨n1, rfl⟩ | ⟨a, ys, rfl, e, rfl⟩
  · rcases h' with ⟨n2, rfl⟩ | ⟨a, ys, rfl, e, _⟩
    · rfl
    · exact (notup_ref n1 e).elim
  · rcases h' with ⟨n2, rfl⟩ | ⟨a', ys', e1, e2, rfl⟩
    · exact (notup_ref n2 e).elim
    · cases e1
      rw [e] at e2
      cases e2
      rfl
theorem pr_fn {H : Hp} {ws : List Int} {x y : V} {b c : Bool} (h : PairB H ws x y b) (h' : PairB H ws x y c) : b = c := by
  rcases h with ⟨w1, rfl⟩ | ⟨i, rfl, o, rfl⟩ | ⟨i, n, rfl, i0, i1, g, t⟩
  · rcases h' with ⟨_, rfl⟩ | ⟨i, rfl, _⟩ | ⟨i, n, rfl, _⟩
    · rfl
    · cases w1
    · cases w1
  · rcases h' with ⟨w1, _⟩ | ⟨i', e, o', rfl⟩ | ⟨i', n, e, i0, i1, _⟩
    · cases w1
    · rfl
    · cases e
      omega
  · rcases h' with ⟨w1, _⟩ | ⟨i', e, o', _⟩ | ⟨i', n', e, _, _, g', t'⟩
    · cases w1
    · cases e
      omega
    · cases e
      rw [g] at g'
      cases g'
      exact tl_fn t t'
theorem fl_fn {H : Hp} {ws : List Int} {v : V} {b c : Bool} (h : FlB H ws v b) (h' : FlB H ws v c) : b = c := by
  rcases h with ⟨a, xs, rfl, e, l, rfl⟩ | ⟨n1, rfl⟩ | ⟨a, x, y, rfl, e, p⟩
  · rcases h' with ⟨_, _, _, _, _, rfl⟩ | ⟨n2, rfl⟩ | ⟨a', x, y, e1, e2, _⟩
    · rfl
    · rfl
    · cases e1
      rw [e] at e2
      cases e2
      exact (l rfl).elim
  · rcases h' with ⟨_, _, _, _, _, rfl⟩ | ⟨n2, rfl⟩ | ⟨a', x, y, rfl, e2, _⟩
    · rfl
    · rfl
    · exact (notup_ref n1 e2).elim
  · rcases h' with ⟨a', xs, e1, e2, l, _⟩ | ⟨n2, rfl⟩ | ⟨a', x', y', e1, e2, p'⟩
    · cases e1
      rw [e] at e2
      cases e2
      exact (l rfl).elim
    · exact (notup_ref n2 e).elim
    · cases e1
      rw [e] at e2
      cases e2
      exact pr_fn p p'
theorem ne2 {xs : List V} (h : xs.length = 2) : ∃ x y, xs = [x, y] := by
  match xs, h with
  | [x, y], _ => exact ⟨x, y, rfl⟩
section
variable {P : Program} {w : World} {K : PySem.W.Frag} {mg : Str → Option Value} {base : Heap}
/-! ### is_whole, is_pair -/
def spWhole : Sp := fun vs H Q _ => ∃ x, vs = [x] ∧ Item H x ∧ Q (.bl (whole x)) H
theorem ok_whole {f : Addr} {fd : FuncData} {k : Nat} (F : Fun K "is_whole" "is_whole" sWhole f fd) (mi : mg "isinstance" = none) (mint : mg "int" = none) (mbool : mg "bool" = none) : FnOk P w K mg base CX0 (k + 1) f fd ["thing"] spWhole := by
  refine F.ok scWhole (fun vs H Q E h => ?_) (fun cdv A outer s H vs Q E hr h => ?_)
  · obtain ⟨x, rfl, _⟩ := h
    rfl
  · obtain ⟨x, rfl, hx, q⟩ := h
    refine ⟨_, pss_one (ps_ret (pe_and (pe_callB call_isi (by rfl) mi (by decide +kernel) (pa_cons (pv 0) (pa_cons (pe_bltn (v := .ty "int") (by rfl) mint (by decide +kernel) rfl) pa_nil)))
      (pe_one (pe_not (pe_callB call_isi (by rfl) mi (by decide +kernel) (pa_cons (pv 0) (pa_cons (pe_bltn (v := .ty "bool") (by rfl) mbool (by decide +kernel) rfl) pa_nil))))))), ?_⟩
    obtain ⟨t, bi, bb, h1, h2, h3, h4⟩ := item_ty (K := K) hx
    rw [← h4] at q
    refine ⟨x, rfl, _, _, _, _, bi, rfl, .ty "int", h1, kit_ty h2, bi, rfl, ?_⟩
    cases bi with
    | false => exact iteF q
    | true =>
      refine iteT ?_
      exact ⟨x, rfl, _, _, _, _, bb, rfl, .ty "bool", h1, kit_ty h3, bb, rfl, by cases bb <;> exact q⟩
def PrB (H : Hp) (v : V) (b : Bool) : Prop := (∃ a xs, v = .ref a ∧ H a = some (.tup xs) ∧ b = decide (xs.length = 2)) ∨ (NoTup H v ∧ b = false)
def spPair : Sp := fun vs H Q _ => ∃ v, vs = [v] ∧ Thing H v ∧ ∀ b, PrB H v b → Q (.bl b) H
theorem ok_pair {f : Addr} {fd : FuncData} {k : Nat} (F : Fun K "is_pair" "is_pair" sPair f fd) (mi : mg "isinstance" = none) (mtup : mg "tuple" = none) (mlen : mg "len" = none) : FnOk P w K mg base CX0 (k + 1) f fd ["thing"] spPair := by
  refine F.ok scPair (fun vs H Q E h => ?_) (fun cdv A outer s H vs Q E hr h => ?_)
  · obtain ⟨x, rfl, _⟩ := h
    rfl
  · obtain ⟨v, rfl, hv, q⟩ := h
    refine ⟨_, pss_one (ps_ret (pe_and (pe_callB call_isi (by rfl) mi (by decide +kernel) (pa_cons (pv 0) (pa_cons (pe_bltn (v := .ty "tuple") (by rfl) mtup (by decide +kernel) rfl) pa_nil)))
      (pe_one (pe_cmpR op_eq (pe_callB call_len_seq (by rfl) mlen PySem.boot_len (pa_cons (pv 0) pa_nil)) pe_int (nomark _))))), ?_⟩
    rcases hv with ⟨a, xs, rfl, ha, _⟩ | hv
    · refine ⟨.ref a, rfl, _, _, _, _, true, rfl, .ty "tuple", .base (.tup ha), kit_ty (by decide +kernel), true, rfl, ?_⟩
      refine iteT ?_
      refine ⟨.ref a, rfl, a, xs, rfl, .inr (SqT.of ha), rfl, ?_⟩
      refine q _ (.inl ⟨a, xs, rfl, ha, ?_⟩)
      rw [decide_eq_decide]
      exact ⟨fun e => by have := V.int.inj e; omega, fun e => by rw [e]; rfl⟩
    · obtain ⟨t, bi, bb, h1, h2, _⟩ := notup_ty (K := K) hv
      refine ⟨v, rfl, _, _, _, _, false, rfl, .ty "tuple", h1, kit_ty h2, false, rfl, ?_⟩
      exact iteF (q false (.inr ⟨hv, rfl⟩))
/-! ### the last row of both: isinstance(things, tuple) and len(things) == crate[tray] -/
theorem tup_len_read {t : Addr} {ws : List Int} {H : Hp} {y : V} {i n : Int} (i0 : 0 ≤ i) (g : ws[i.toNat]? = some n) (ht : H t = some (.tup (ws.map V.int))) (hy : Item H y) :
    (∃ ty, TyX K H y (.type ty) ∧ kitB ty "tuple" = some false ∧ NoTup H y) ∨ ∃ c ys, y = .ref c ∧ H c = some (.tup ys) := by
  rcases hy with hy | ⟨c, ys, e, h⟩
  · obtain ⟨ty, _, _, h1, h2, _⟩ := notup_ty (K := K) hy
    exact .inl ⟨ty, h1, h2, hy⟩
  · exact .inr ⟨c, ys, e, h⟩
theorem atW {ws : List Int} {i n : Int} (i0 : 0 ≤ i) (g : ws[i.toNat]? = some n) : atI (ws.map V.int) i = some (.int n) := at_of (j := i.toNat) (by omega) (by rw [List.getElem?_map, g]; rfl)
/-! ### is_filling -/
def spIsFill (Pt : Addr) : Sp := fun vs H Q _ => ∃ (t : Addr) (ws : List Int) (v : V), vs = [.ref t, v] ∧ H t = some (.tup (ws.map V.int)) ∧ ws.length ≤ 60 ∧ (∀ x ∈ ws, 0 ≤ x ∧ x ≤ 12) ∧ Thing H v ∧ GxR.TabG H Pt ∧ ∀ b H', FlB H ws v b → GxR.Tabbed Pt H H' → Q (.bl b) H'
theorem ints_ok {ws : List Int} (h : ∀ x ∈ ws, 0 ≤ x ∧ x ≤ 12) : (ws.map V.int).all okItem = true := by
  rw [List.all_eq_true]
  intro x hx
  obtain ⟨n, hn, rfl⟩ := List.mem_map.mp hx
  have := h n hn
  show (decide (0 ≤ n) && decide (n ≤ 12)) = true
  rw [decide_eq_true this.1, decide_eq_true this.2]
  rfl
theorem ints_items {H : Hp} {ws : List Int} : ∀ x ∈ ws.map V.int, Item H x := fun x hx => by
  obtain ⟨n, _, rfl⟩ := List.mem_map.mp hx
  exact .inl (.inl ⟨n, rfl⟩)
theorem ok_isfill {f fW fP fC Pt : Addr} {fd fdW fdP fdC : FuncData} {k : Nat} (F : Fun K "is_filling" "is_filling" sIsFill f fd)
    (FW : Fun K "is_whole" "is_whole" sWhole fW fdW) (bW : Binds K fdW ["thing"] []) (gW : mg "is_whole" = some (.ref fW)) (FP : Fun K "is_pair" "is_pair" sPair fP fdP) (bP : Binds K fdP ["thing"] []) (gP : mg "is_pair" = some (.ref fP))
    (GC : FnOk P w K mg base CX0 (k + 3) fC fdC ["thing"] (spIsCrate Pt)) (kpC : PySem.W.keepIn K (.ref fC) = true) (bC : Binds K fdC ["thing"] []) (gC : mg "is_crate" = some (.ref fC))
    (mi : mg "isinstance" = none) (mint : mg "int" = none) (mbool : mg "bool" = none) (mtup : mg "tuple" = none) (mlen : mg "len" = none) : FnOk P w K mg base CX0 (k + 3 + 1) f fd ["crate", "thing"] (spIsFill Pt) := by
  have GW : FnOk P w K mg base CX0 1 fW fdW ["thing"] spWhole := ok_whole FW mi mint mbool
  have GP : FnOk P w K mg base CX0 1 fP fdP ["thing"] spPair := ok_pair FP mi mtup mlen
  refine F.ok scIsFill (fun vs H Q E h => ?_) (fun cdv A outer s H vs Q E hr h => ?_)
  · obtain ⟨t, ws, v, rfl, _⟩ := h
    rfl
  · obtain ⟨t, ws, v, rfl, ht, hl, hw, hv, hG, q⟩ := h
    have hr1 : Room 1 _ := hr.mono (by omega)
    refine ⟨_, pss_cons (ps_if (PW.pt (pw_or (pt_not (pt_val (pe_call GC hr (by rfl) gC kpC bC .nil pass0 (pa_cons (pv 0) pa_nil)))) (pw_or1 (pt_not (pt_val (pe_call GP hr1 (by rfl) gP FP.kp bP .nil pass0 (pa_cons (pv 1) pa_nil)))))))
        (pss_one (ps_ret pe_bl)) pss_nil)
      (pss_cons (ps_asg (pv 1) (pg_tup rfl (pgs_cons (pg_name (i := 2) scIsFill.nd rfl (.inl rfl)) (pgs_cons (pg_name (i := 3) scIsFill.nd rfl (.inl rfl)) pgs_nil))))
      (pss_cons (ps_if (PW.pt (pw_or (pt_not (pt_val (pe_call GW hr1 (by rfl) gW FW.kp bW .nil pass0 (pa_cons (pv 2) pa_nil)))) (pw_or1 (pt_not (pt_chain op_le op_lt pe_int (pv 2) (pe_callB call_len_seq (by rfl) mlen PySem.boot_len (pa_cons (pv 0) pa_nil)))))))
        (pss_one (ps_ret pe_bl)) pss_nil)
      (pss_one (ps_ret (pe_and (pe_callB call_isi (by rfl) mi (by decide +kernel) (pa_cons (pv 3) (pa_cons (pe_bltn (v := .ty "tuple") (by rfl) mtup (by decide +kernel) rfl) pa_nil)))
        (pe_one (pe_cmpR op_eq (pe_callB call_len_seq (by rfl) mlen PySem.boot_len (pa_cons (pv 3) pa_nil)) (pe_ix ix_tup (pv 0) (pv 2) (fun _ _ => rfl)) (nomark _)))))))), ?_⟩
    refine ⟨.ref t, rfl, .ref t, rfl, .inl ⟨t, _, rfl, ht, ints_items⟩, hG, fun b H1 hb hT => ?_⟩
    have eb : b = true := by
      rcases hb with ⟨a, xs, e1, e2, rfl⟩ | ⟨n, _⟩
      · cases e1
        rw [ht] at e2
        cases e2
        rw [ints_ok hw, List.length_map, decide_eq_true hl]
        rfl
      · exact (notup_ref n ht).elim
    subst eb
    -- what stood stands
    have st : ∀ a o, H a = some o → (∀ z, o ≠ .tbl z) → H1 a = some o := fun a o e n => by
      rw [hT.2 a fun z => ?_]
      · exact e
      · obtain ⟨ps, hP, _⟩ := hG
        rw [z, hP] at e
        exact n ps (Option.some.inj e).symm
    have stI : ∀ x, Item H x → Item H1 x := fun x hx => by
      rcases hx with hx | ⟨a, ys, e, h⟩
      · exact .inl (hx.keep fun a ys _ e => st a _ e fun z q => by cases q)
      · exact .inr ⟨a, ys, e, st a _ h fun z q => by cases q⟩
    have ht1 : H1 t = some (.tup (ws.map V.int)) := st _ _ ht fun z q => by cases q
    have hv1 : Thing H1 v := by
      rcases hv with ⟨a, xs, e, h, r⟩ | hv
      · exact .inl ⟨a, xs, e, st _ _ h (fun z q => by cases q), fun x hx => stI x (r x hx)⟩
      · exact .inr (hv.keep fun a ys _ e => st a _ e fun z q => by cases q)
    refine ⟨true, rfl, ?_⟩
    refine iteF ?_
    refine ⟨v, rfl, v, rfl, hv1, fun b hb => ?_⟩
    refine ⟨b, rfl, ?_⟩
    rcases hv with ⟨a, xs, rfl, ha, hxs⟩ | hv
    · have ha1 : H1 a = some (.tup xs) := st _ _ ha fun z q => by cases q
      have eb : b = decide (xs.length = 2) := by
        rcases hb with ⟨a', ys, e1, e2, rfl⟩ | ⟨n, _⟩
        · cases e1
          rw [ha1] at e2
          cases e2
          rfl
        · exact (notup_ref n ha1).elim
      subst eb
      by_cases h2 : xs.length = 2
      · rw [decide_eq_true h2]
        refine iteF ?_
        obtain ⟨x, y, rfl⟩ := ne2 h2
        refine ⟨.ref a, rfl, a, [x, y], rfl, SqT.of ha1, rfl, x, [y], rfl, y, [], rfl, rfl, ?_⟩
        have hx1 := stI x (hxs x (by simp))
        have hy0 := hxs y (by simp)
        have hy1 := stI y hy0
        refine ⟨x, rfl, x, rfl, hx1, ?_⟩
        refine ⟨whole x, rfl, ?_⟩
        have out : ∀ b, PairB H ws x y b → Q (.bl b) H1 := fun b hb => q b H1 (.inr (.inr ⟨a, x, y, rfl, ha, hb⟩)) hT
        cases hwx : whole x with
        | false =>
          refine iteT ?_
          exact out false (.inl ⟨hwx, rfl⟩)
        | true =>
          refine iteF ?_
          obtain ⟨i, rfl⟩ := whole_int hwx
          refine ⟨.int i, rfl, 0, i, rfl, rfl, _, rfl, ?_⟩
          have out2 : (i < 0 ∨ (ws.length : Int) ≤ i) → Q (.bl false) H1 := fun z => out false (.inr (.inl ⟨i, rfl, z, rfl⟩))
          refine ite2 (fun c0 => ?_) (fun c0 => ?_)
          · have i0 : 0 ≤ i := of_decide_eq_true c0
            refine ⟨.ref t, rfl, t, _, rfl, .inr (SqT.of ht1), _, _, rfl, rfl, _, rfl, ?_⟩
            rw [List.length_map]
            by_cases i1 : i < (ws.length : Int)
            · rw [decide_eq_true i1]
              refine iteF ?_
              have hlt : i.toNat < ws.length := by omega
              have g : ws[i.toNat]? = some ws[i.toNat] := List.getElem?_eq_getElem hlt
              have out3 : ∀ b, TupLen H y ws[i.toNat] b → Q (.bl b) H1 := fun b hb => out b (.inr (.inr ⟨i, _, rfl, i0, i1, g, hb⟩))
              rcases hy0 with hy0 | ⟨c, ys, rfl, hc⟩
              · obtain ⟨ty, _, _, h1, h2, _⟩ := notup_ty (K := K) (hy0.keep fun a ys _ e => st a _ e fun z q => by cases q)
                refine ⟨y, rfl, _, _, _, _, false, rfl, .ty "tuple", h1, kit_ty h2, false, rfl, ?_⟩
                exact iteF (out3 false (.inl ⟨hy0, rfl⟩))
              · have hc1 : H1 c = some (.tup ys) := st _ _ hc fun z q => by cases q
                refine ⟨.ref c, rfl, _, _, _, _, true, rfl, .ty "tuple", .base (.tup hc1), kit_ty (by decide +kernel), true, rfl, ?_⟩
                refine iteT ?_
                refine ⟨.ref c, rfl, c, ys, rfl, .inr (SqT.of hc1), .ref t, rfl, .int i, rfl, t, _, i, _, rfl, rfl, SqT.of ht1, atW i0 g, rfl, ?_⟩
                refine out3 _ (.inr ⟨c, ys, rfl, hc, ?_⟩)
                rw [decide_eq_decide]
                exact ⟨fun e => V.int.inj e, fun e => by rw [e]⟩
            · rw [decide_eq_false i1]
              exact iteT (out2 (by omega))
          · have i0 : ¬ 0 ≤ i := fun z => c0 (decide_eq_true z)
            exact ⟨_, rfl, iteT (out2 (by omega))⟩
      · rw [decide_eq_false h2]
        refine iteT ?_
        exact q false H1 (.inl ⟨a, xs, rfl, ha, h2, rfl⟩) hT
    · have eb : b = false := by
        rcases hb with ⟨a', ys, rfl, e2, _⟩ | ⟨_, rfl⟩
        · exact (notup_ref (hv.keep fun a ys _ e => st a _ e fun z q => by cases q) e2).elim
        · rfl
      subst eb
      refine iteT ?_
      exact q false H1 (.inr (.inl ⟨hv, rfl⟩)) hT
end
theorem lg59 : ((10 : Int) ^ (59 : Int).toNat).natAbs.log2 < 9000 := Nat.lt_of_lt_of_le (PySem.Flt.log2_lt_of (by decide : 0 < 200) (by decide +kernel)) (by decide)
theorem p59 : (0 : Int) < 10 ^ (59 : Int).toNat := by decide +kernel
theorem at_in {xs : List V} {r : Int} {n : Nat} (hn : xs.length = n) (h0 : 0 ≤ r) (h1 : r < (n : Int)) : ∃ v, v ∈ xs ∧ atI xs r = some v := by
  have h2 : r.toNat < xs.length := by omega
  exact ⟨xs[r.toNat], List.getElem_mem h2, at_of (j := r.toNat) (by omega) (List.getElem?_eq_getElem h2)⟩
theorem Kp.get {p l b : Addr} {o : HO} {H H' : Hp} (k : Kp p l H H') (n : b ≠ p ∧ b ≠ l) (e : H b = some o) : H' b = some o := k b o n.1 n.2 e
theorem item_int {H : Hp} {i : Int} : Item H (.int i) := .inl (.inl ⟨i, rfl⟩)
theorem item_bl {H : Hp} {b : Bool} : Item H (.bl b) := .inl (.inr (.inl ⟨b, rfl⟩))
theorem item_non {H : Hp} : Item H .non := .inl (.inr (.inr (.inl rfl)))
theorem item_str {H : Hp} {z : Str} : Item H (.str z) := .inl (.inr (.inr (.inr (.inl ⟨z, rfl⟩))))
theorem item_lst {H : Hp} {a : Addr} {ys : List V} (h : H a = some (.lst ys)) : Item H (.ref a) := .inl (.inr (.inr (.inr (.inr ⟨a, ys, rfl, h⟩))))
theorem item_tup {H : Hp} {a : Addr} {ys : List V} (h : H a = some (.tup ys)) : Item H (.ref a) := .inr ⟨a, ys, rfl, h⟩
section
variable {P : Program} {w : World} {K : PySem.W.Frag} {mg : Str → Option Value} {base : Heap}
/-! ### _law_due -/
def spDue : Sp := fun vs H Q _ => ∃ (t : Addr) (ws : List Int) (v : V), vs = [.ref t, v] ∧ H t = some (.tup (ws.map V.int)) ∧ Thing H v ∧ ∀ b, FlB H ws v b → Q (.bl b) H
theorem ok_due {f : Addr} {fd : FuncData} {k : Nat} (F : Fun K "_law_due" "_law_due" sDue f fd) (mi : mg "isinstance" = none) (mint : mg "int" = none) (mbool : mg "bool" = none) (mtup : mg "tuple" = none) (mlen : mg "len" = none) : FnOk P w K mg base CX0 (k + 1) f fd ["crate", "thing"] spDue := by
  refine F.ok scDue (fun vs H Q E h => ?_) (fun cdv A outer s H vs Q E hr h => ?_)
  · obtain ⟨t, ws, v, rfl, _⟩ := h
    rfl
  · obtain ⟨t, ws, v, rfl, ht, hv, q⟩ := h
    refine ⟨_, pss_cons (ps_if (PW.pt (pw_or (pt_not (pt_val (pe_callB call_isi (by rfl) mi (by decide +kernel) (pa_cons (pv 1) (pa_cons (pe_bltn (v := .ty "tuple") (by rfl) mtup (by decide +kernel) rfl) pa_nil)))))
        (pw_or1 (pt_cmpR op_ne (pe_callB call_len_seq (by rfl) mlen PySem.boot_len (pa_cons (pv 1) pa_nil)) pe_int (nomark _)))))
        (pss_one (ps_ret pe_bl)) pss_nil)
      (pss_cons (ps_asg (pv 1) (pg_tup rfl (pgs_cons (pg_name (i := 2) scDue.nd rfl (.inl rfl)) (pgs_cons (pg_name (i := 3) scDue.nd rfl (.inl rfl)) pgs_nil))))
      (pss_cons (ps_if (PW.pt (pw_or (pt_not (pt_val (pe_callB call_isi (by rfl) mi (by decide +kernel) (pa_cons (pv 2) (pa_cons (pe_bltn (v := .ty "int") (by rfl) mint (by decide +kernel) rfl) pa_nil)))))
          (pw_or (pt_val (pe_callB call_isi (by rfl) mi (by decide +kernel) (pa_cons (pv 2) (pa_cons (pe_bltn (v := .ty "bool") (by rfl) mbool (by decide +kernel) rfl) pa_nil))))
          (pw_or (pt_cmpR op_lt (pv 2) pe_int (nomark _)) (pw_or1 (pt_cmpR op_ge (pv 2) (pe_callB call_len_seq (by rfl) mlen PySem.boot_len (pa_cons (pv 0) pa_nil)) (nomark _)))))))
        (pss_one (ps_ret pe_bl)) pss_nil)
      (pss_one (ps_ret (pe_and (pe_callB call_isi (by rfl) mi (by decide +kernel) (pa_cons (pv 3) (pa_cons (pe_bltn (v := .ty "tuple") (by rfl) mtup (by decide +kernel) rfl) pa_nil)))
        (pe_one (pe_cmpR op_eq (pe_callB call_len_seq (by rfl) mlen PySem.boot_len (pa_cons (pv 3) pa_nil)) (pe_ix ix_tup (pv 0) (pv 2) (fun _ _ => rfl)) (nomark _)))))))), ?_⟩
    rcases hv with ⟨a, xs, rfl, ha, hxs⟩ | hv
    · refine ⟨.ref a, rfl, _, _, _, _, true, rfl, .ty "tuple", .base (.tup ha), kit_ty (by decide +kernel), _, rfl, ?_⟩
      refine iteF ?_
      refine ⟨.ref a, rfl, a, xs, rfl, .inr (SqT.of ha), rfl, _, rfl, ?_⟩
      by_cases h2 : xs.length = 2
      · rw [show decide (V.int (xs.length : Int) = V.int 2) = true from decide_eq_true (by rw [h2]; rfl)]
        refine iteF ?_
        obtain ⟨x, y, rfl⟩ := ne2 h2
        refine ⟨.ref a, rfl, a, [x, y], rfl, SqT.of ha, rfl, x, [y], rfl, y, [], rfl, rfl, ?_⟩
        have hx := hxs x (by simp)
        have hy := hxs y (by simp)
        have out : ∀ b, PairB H ws x y b → Q (.bl b) H := fun b hb => q b (.inr (.inr ⟨a, x, y, rfl, ha, hb⟩))
        obtain ⟨ty, bi, bb, h1, h2', h3, h4⟩ := item_ty (K := K) hx
        refine ⟨x, rfl, _, _, _, _, bi, rfl, .ty "int", h1, kit_ty h2', _, rfl, ?_⟩
        cases bi with
        | false =>
          refine iteT ?_
          exact out false (.inl ⟨by rw [← h4]; rfl, rfl⟩)
        | true =>
          refine iteF ?_
          refine ⟨x, rfl, _, _, _, _, bb, rfl, .ty "bool", h1, kit_ty h3, _, rfl, ?_⟩
          cases bb with
          | true =>
            refine iteT ?_
            exact out false (.inl ⟨by rw [← h4]; rfl, rfl⟩)
          | false =>
            refine iteF ?_
            obtain ⟨i, rfl⟩ := whole_int (x := x) (by rw [← h4]; rfl)
            have out2 : (i < 0 ∨ (ws.length : Int) ≤ i) → Q (.bl false) H := fun z => out false (.inr (.inl ⟨i, rfl, z, rfl⟩))
            refine ⟨.int i, rfl, i, 0, rfl, rfl, _, rfl, ite2 (fun c0 => ?_) (fun c0 => ?_)⟩
            · exact out2 (.inl (of_decide_eq_true c0))
            · have i0 : ¬ i < 0 := fun z => c0 (decide_eq_true z)
              refine ⟨.int i, rfl, .ref t, rfl, t, _, rfl, .inr (SqT.of ht), _, _, rfl, rfl, _, rfl, ?_⟩
              rw [List.length_map]
              by_cases i1 : (ws.length : Int) ≤ i
              · rw [decide_eq_true i1]
                exact iteT (out2 (.inr i1))
              · rw [decide_eq_false i1]
                refine iteF ?_
                have hlt : i.toNat < ws.length := by omega
                have g : ws[i.toNat]? = some ws[i.toNat] := List.getElem?_eq_getElem hlt
                have out3 : ∀ b, TupLen H y ws[i.toNat] b → Q (.bl b) H := fun b hb => out b (.inr (.inr ⟨i, _, rfl, by omega, by omega, g, hb⟩))
                rcases hy with hy | ⟨c, ys, rfl, hc⟩
                · obtain ⟨ty, _, _, h1, h2, _⟩ := notup_ty (K := K) hy
                  refine ⟨y, rfl, _, _, _, _, false, rfl, .ty "tuple", h1, kit_ty h2, false, rfl, ?_⟩
                  exact iteF (out3 false (.inl ⟨hy, rfl⟩))
                · refine ⟨.ref c, rfl, _, _, _, _, true, rfl, .ty "tuple", .base (.tup hc), kit_ty (by decide +kernel), true, rfl, ?_⟩
                  refine iteT ?_
                  refine ⟨.ref c, rfl, c, ys, rfl, .inr (SqT.of hc), .ref t, rfl, .int i, rfl, t, _, i, _, rfl, rfl, SqT.of ht, atW (by omega) g, rfl, ?_⟩
                  refine out3 _ (.inr ⟨c, ys, rfl, hc, ?_⟩)
                  rw [decide_eq_decide]
                  exact ⟨fun e => V.int.inj e, fun e => by rw [e]⟩
      · rw [show decide (V.int (xs.length : Int) = V.int 2) = false from decide_eq_false fun e => h2 (by have := V.int.inj e; omega)]
        refine iteT ?_
        exact q false (.inl ⟨a, xs, rfl, ha, h2, rfl⟩)
    · obtain ⟨ty, bi, bb, h1, h2, _⟩ := notup_ty (K := K) hv
      refine ⟨v, rfl, _, _, _, _, false, rfl, .ty "tuple", h1, kit_ty h2, _, rfl, ?_⟩
      refine iteT ?_
      exact q false (.inr (.inl ⟨hv, rfl⟩))
/-! ### _law_any -/
def spAny : Sp := fun vs H Q _ => ∃ (p l : Addr), vs = [.ref p] ∧ Sc p l H ∧ ∀ v H', Item H' v → (∀ a, v = .ref a → H a = none) → Sc p l H' → Kp p l H H' → Q v H'
theorem ok_any {f fN : Addr} {fd fdN : FuncData} {k : Nat} (F : Fun K "_law_any" "_law_any" sAny f fd) (FN : Fun K "_law_next" "_law_next" sNext fN fdN) (bN : Binds K fdN ["source", "many"] []) (gN : mg "_law_next" = some (.ref fN)) (mabs : mg "abs" = none) (mt : mg "tuple" = none) (mr : mg "range" = none) : FnOk P w K mg base CX0 (k + 1 + 1) f fd ["source"] spAny := by
  have GN : FnOk P w K mg base CX0 (k + 1) fN fdN ["source", "many"] spNext := ok_next FN mabs
  refine F.ok scAny (fun vs H Q E h => ?_) (fun cdv A outer s H vs Q E hr h => ?_)
  · obtain ⟨p, l, rfl, _⟩ := h
    rfl
  · obtain ⟨p, l, rfl, hS, q⟩ := h
    refine ⟨_, pss_cons (ps_set (i := 1) scAny.nd rfl (.inl rfl) (pe_call GN hr (by rfl) gN FN.kp bN .nil pass0 (pa_cons (pv 0) (pa_cons pe_int pa_nil))))
      (pss_cons (ps_if (pt_cmpR op_eq (pv 1) pe_int (nomark _)) (pss_one (ps_ret (pe_call GN hr (by rfl) gN FN.kp bN .nil pass0 (pa_cons (pv 0) (pa_cons pe_int pa_nil))))) pss_nil)
      (pss_cons (ps_if (pt_cmpR op_eq (pv 1) pe_int (nomark _))
          (pss_cons (ps_set (i := 2) scAny.nd rfl (.inl rfl) (pe_tup (pa_cons (pe_call GN hr (by rfl) gN FN.kp bN .nil pass0 (pa_cons (pv 0) (pa_cons pe_int pa_nil)))
            (pa_cons (pe_callTy call_tuple_of (by rfl) mt (by decide +kernel) (pa_cons (pe_lc (own := [("k", 3)]) (g := gName 3) (tt := tYes) rfl scAny.nd (pi_range1 rfl mr (pa_cons (pe_call GN hr (by rfl) gN FN.kp bN .nil pass0 (pa_cons (pv 0) (pa_cons pe_int pa_nil))) pa_nil)) (blkOk_by (N := ["source", "way", "inner", "k"]) (sc := defScope sAny) (by decide +kernel)) (fun _ _ _ _ _ => pg_name (i := 3) scAny.nd rfl (Or.inl rfl)) (fun _ _ _ _ _ => pts_nil)
              (fun _ _ _ _ _ => pe_call GN hr (by rfl) gN FN.kp bN .nil pass0 (pa_cons (pv 0) (pa_cons pe_int pa_nil)))) pa_nil)) pa_nil))))
          (pss_one (ps_ret (pe_ix ix_list (pe_lst (pa_cons (pv 2) (pa_cons (pe_tup (pa_cons (pe_call GN hr (by rfl) gN FN.kp bN .nil pass0 (pa_cons (pv 0) (pa_cons pe_int pa_nil))) (pa_cons (pe_tup (pa_cons pe_int (pa_cons (pv 2) pa_nil))) pa_nil)))
            (pa_cons (pe_tup (pa_cons (pe_call GN hr (by rfl) gN FN.kp bN .nil pass0 (pa_cons (pv 0) (pa_cons pe_int pa_nil))) (pa_cons (pe_tup pa_nil) pa_nil))) pa_nil))))
            (pe_call GN hr (by rfl) gN FN.kp bN .nil pass0 (pa_cons (pv 0) (pa_cons pe_int pa_nil))) (fun _ _ => rfl))))) pss_nil)
      (pss_cons (ps_if (pt_cmpR op_eq (pv 1) pe_int (nomark _)) (pss_one (ps_ret (pe_lst (pa_cons (pe_lst (pa_cons (pe_call GN hr (by rfl) gN FN.kp bN .nil pass0 (pa_cons (pv 0) (pa_cons pe_int pa_nil))) pa_nil)) (pa_cons (pe_call GN hr (by rfl) gN FN.kp bN .nil pass0 (pa_cons (pv 0) (pa_cons pe_int pa_nil))) pa_nil))))) pss_nil)
      (pss_cons (ps_if (pt_cmpR op_eq (pv 1) pe_int (nomark _)) (pss_one (ps_ret (pe_op op_sub (pe_un un_neg pe_int) (pe_call GN hr (by rfl) gN FN.kp bN .nil pass0 (pa_cons (pv 0) (pa_cons (pe_op op_pow pe_int pe_int) pa_nil)))))) pss_nil)
      (pss_cons (ps_if (pt_cmpR op_eq (pv 1) pe_int (nomark _)) (pss_one (ps_ret (pe_ix ix_list (pe_lst (pa_cons pe_str (pa_cons pe_str (pa_cons pe_str (pa_cons pe_str (pa_cons pe_str pa_nil)))))) (pe_call GN hr (by rfl) gN FN.kp bN .nil pass0 (pa_cons (pv 0) (pa_cons pe_int pa_nil))) (fun _ _ => rfl)))) pss_nil)
      (pss_cons (ps_if (pt_cmpR op_eq (pv 1) pe_int (nomark _)) (pss_one (ps_ret (pe_ix ix_list (pe_lst (pa_cons pe_non (pa_cons pe_bl (pa_cons pe_bl pa_nil)))) (pe_call GN hr (by rfl) gN FN.kp bN .nil pass0 (pa_cons (pv 0) (pa_cons pe_int pa_nil))) (fun _ _ => rfl)))) pss_nil)
      (pss_cons (ps_if (pt_cmpR op_eq (pv 1) pe_int (nomark _)) (pss_one (ps_ret (pe_tup (pa_cons (pe_call GN hr (by rfl) gN FN.kp bN .nil pass0 (pa_cons (pv 0) (pa_cons pe_int pa_nil))) (pa_cons pe_str pa_nil))))) pss_nil)
      (pss_one (ps_ret (pe_lst (pa_cons (pe_call GN hr (by rfl) gN FN.kp bN .nil pass0 (pa_cons (pv 0) (pa_cons pe_int pa_nil))) pa_nil))))))))))), ?_⟩
    refine ⟨.ref p, rfl, p, l, 8, rfl, hS, by decide, lg (by decide) (by decide), fun wy H1 a1 b1 S1 k1 => ?_⟩
    refine ⟨.int wy, rfl, rfl, _, rfl, ite2 (fun _ => ?_) (fun _ => ?_)⟩
    · refine ⟨.ref p, rfl, p, l, 5, rfl, S1, by decide, lg (by decide) (by decide), fun r H2 a2 b2 S2 k2 => ?_⟩
      exact q _ _ item_int (fun a z => by cases z) S2 (k1.trans k2)
    refine ⟨.int wy, rfl, rfl, _, rfl, ite2 (fun _ => ?_) (fun _ => ?_)⟩
    · -- inner
      refine ⟨.ref p, rfl, p, l, 4, rfl, S1, by decide, lg (by decide) (by decide), fun r2 H2 a2 b2 S2 k2 => ?_⟩
      refine ⟨.ref p, rfl, p, l, 4, rfl, S2, by decide, lg (by decide) (by decide), fun sz H3 a3 b3 S3 k3 => ?_⟩
      refine ⟨sz, rfl, by omega, by omega, fun D hD => lc_range (lo := 0) (n := sz.toNat) (fun i H6 => ∃ ws : List Int, ws.length = i ∧ H6 D = some (.lst (ws.map V.int)) ∧ Sc p l H6 ∧ Kp p l H3 H6) ?_ (fun i H6 hi h6 => ?_) (fun H6 h6 => ?_)⟩
      · exact ⟨[], rfl, upd_same, S3.upd hD, (Kp.refl _).upd hD⟩
      · obtain ⟨ws, hw, e6, S6, k6⟩ := h6
        refine ⟨rfl, .ref p, rfl, p, l, 3, rfl, S6, by decide, lg (by decide) (by decide), fun r7 H7 a7 b7 S7 k7 => ?_⟩
        have nD := S3.ne hD
        refine ⟨_, k7.get nD e6, ?_, ws ++ [r7], ?_, ?_, ?_, ?_⟩
        · rw [List.length_map]
          exact small1000 (by omega)
        · rw [List.length_append, hw]
          rfl
        · rw [upd_same, List.map_append]
          rfl
        · obtain ⟨n, ns, x, y, f1, f2, rr⟩ := S7
          refine ⟨n, ns, x, y, ?_, ?_, rr⟩
          · rw [upd_ne nD.1.symm]
            exact f1
          · rw [upd_ne nD.2.symm]
            exact f2
        · intro b o h1 h2 e
          have nb : b ≠ D := fun z => by
            rw [z, hD] at e
            cases e
          rw [upd_ne nb]
          exact k7 b o h1 h2 (k6 b o h1 h2 e)
      · obtain ⟨ws, hw, e6, S6, k6⟩ := h6
        refine ⟨D, _, rfl, .inl ⟨SqL.of e6, fun t ht => ⟨(show 2 ≤ sizeLine by decide), fun n hn => ?_⟩⟩⟩
        have T1 := S6.upd (o := .tup (ws.map V.int)) ht
        have T2 := T1.upd (o := .tup [.int r2, .ref t]) hn
        have kn : Kp p l H _ := (((((k1.trans k2).trans k3).trans k6).upd (o := .tup (ws.map V.int)) ht).upd (o := .tup [.int r2, .ref t]) hn)
        have fn : H n = none := ((((k1.trans k2).trans k3).trans k6).upd (o := .tup (ws.map V.int)) ht).free T1 hn
        have nn := T1.ne hn
        have e7 : (upd (upd H6 t (.tup (ws.map V.int))) n (.tup [.int r2, .ref t])) n = some (.tup [.int r2, .ref t]) := upd_same
        generalize upd (upd H6 t (.tup (ws.map V.int))) n (.tup [.int r2, .ref t]) = H7 at T2 kn e7 ⊢
        refine ⟨.ref n, rfl, .ref p, rfl, p, l, 4, rfl, T2, by decide, lg (by decide) (by decide), fun r8 H8 a8 b8 S8 k8 => ?_⟩
        refine ⟨.ref n, rfl, (show 2 ≤ sizeLine by decide), fun i1 hi1 => ⟨(show 2 ≤ sizeLine by decide), fun i2 hi2 => ?_⟩⟩
        have U1 := S8.upd (o := .tup [.int 0, .ref n]) hi1
        have U2 := U1.upd (o := .tup [.int r8, .ref i1]) hi2
        have ku : Kp p l H _ := ((kn.trans k8).upd (o := .tup [.int 0, .ref n]) hi1).upd (o := .tup [.int r8, .ref i1]) hi2
        have fi : H i2 = none := ((kn.trans k8).upd (o := .tup [.int 0, .ref n]) hi1).free U1 hi2
        refine ⟨.ref p, rfl, p, l, 4, rfl, U2, by decide, lg (by decide) (by decide), fun r9 H9 a9 b9 S9 k9 => ⟨Nat.zero_le _, fun j1 hj1 => ⟨(show 2 ≤ sizeLine by decide), fun j2 hj2 => ⟨(show 3 ≤ sizeLine by decide), fun q0 h0 => ?_⟩⟩⟩⟩
        have W1 := S9.upd (o := .tup []) hj1
        have W2 := W1.upd (o := .tup [.int r9, .ref j1]) hj2
        have W3 := W2.upd (o := .lst [.ref n, .ref i2, .ref j2]) h0
        have kw : Kp p l H _ := (((ku.trans k9).upd (o := .tup []) hj1).upd (o := .tup [.int r9, .ref j1]) hj2).upd (o := .lst [.ref n, .ref i2, .ref j2]) h0
        have fj : H j2 = none := ((ku.trans k9).upd (o := .tup []) hj1).free W1 hj2
        refine ⟨.ref p, rfl, p, l, 3, rfl, W3, by decide, lg (by decide) (by decide), fun r10 H10 a10 b10 S10 k10 => ?_⟩
        obtain ⟨v, hv, ev⟩ := at_in (xs := [V.ref n, .ref i2, .ref j2]) (n := 3) rfl a10 b10
        refine ⟨q0, _, r10, v, rfl, rfl, SqL.of (k10.get (W2.ne h0) upd_same), ev, ?_⟩
        have keep9 : ∀ b o, b ≠ p ∧ b ≠ l → H9 b = some o → H10 b = some o := fun b o n e => k10.get n (same_upd h0 _ _ (same_upd hj2 _ _ (same_upd hj1 _ _ e)))
        simp only [List.mem_cons, List.not_mem_nil, or_false] at hv
        rcases hv with rfl | rfl | rfl
        · exact q _ _ (item_tup (keep9 n _ nn (k9.get nn (same_upd hi2 _ _ (same_upd hi1 _ _ (k8.get nn e7)))))) (fun a z => by cases z; exact fn) S10 (kw.trans k10)
        · exact q _ _ (item_tup (keep9 i2 _ (U1.ne hi2) (k9.get (U1.ne hi2) upd_same))) (fun a z => by cases z; exact fi) S10 (kw.trans k10)
        · exact q _ _ (item_tup (k10.get (W1.ne hj2) (same_upd h0 _ _ upd_same))) (fun a z => by cases z; exact fj) S10 (kw.trans k10)
    refine ⟨.int wy, rfl, rfl, _, rfl, ite2 (fun _ => ?_) (fun _ => ?_)⟩
    · refine ⟨.ref p, rfl, p, l, 3, rfl, S1, by decide, lg (by decide) (by decide), fun r2 H2 a2 b2 S2 k2 => ⟨(show 1 ≤ sizeLine by decide), fun e1 h1 => ?_⟩⟩
      refine ⟨.ref p, rfl, p, l, 3, rfl, S2.upd h1, by decide, lg (by decide) (by decide), fun r3 H3 a3 b3 S3 k3 => ⟨(show 2 ≤ sizeLine by decide), fun e2 h2 => ?_⟩⟩
      have kk : Kp p l H H3 := ((k1.trans k2).upd h1).trans k3
      exact q _ _ (item_lst upd_same) (fun a z => by cases z; exact kk.free S3 h2) (S3.upd h2) (kk.upd h2)
    refine ⟨.int wy, rfl, rfl, _, rfl, ite2 (fun _ => ?_) (fun _ => ?_)⟩
    · refine ⟨1, rfl, .ref p, rfl, 10, 59, rfl, rfl, ⟨by decide, by decide, by decide⟩, p, l, _, rfl, S1, p59, lg59, fun r H2 a2 b2 S2 k2 => ?_⟩
      exact ⟨_, _, rfl, rfl, q _ _ item_int (fun a z => by cases z) S2 (k1.trans k2)⟩
    refine ⟨.int wy, rfl, rfl, _, rfl, ite2 (fun _ => ?_) (fun _ => ?_)⟩
    · refine ⟨(show 5 ≤ sizeLine by decide), fun e1 h1 => ?_⟩
      refine ⟨.ref p, rfl, p, l, 5, rfl, S1.upd h1, by decide, lg (by decide) (by decide), fun r H2 a2 b2 S2 k2 => ?_⟩
      obtain ⟨v, hv, ev⟩ := at_in (xs := [V.str "", .str "a", .str "0", .str "ab c", .str "~"]) (n := 5) rfl a2 b2
      refine ⟨e1, _, r, v, rfl, rfl, SqL.of (k2.get (S1.ne h1) upd_same), ev, ?_⟩
      obtain ⟨z, rfl⟩ : ∃ z, v = .str z := by
        simp only [List.mem_cons, List.not_mem_nil, or_false] at hv
        rcases hv with rfl | rfl | rfl | rfl | rfl <;> exact ⟨_, rfl⟩
      exact q _ _ item_str (fun a z => by cases z) S2 ((k1.upd h1).trans k2)
    refine ⟨.int wy, rfl, rfl, _, rfl, ite2 (fun _ => ?_) (fun _ => ?_)⟩
    · refine ⟨(show 3 ≤ sizeLine by decide), fun e1 h1 => ?_⟩
      refine ⟨.ref p, rfl, p, l, 3, rfl, S1.upd h1, by decide, lg (by decide) (by decide), fun r H2 a2 b2 S2 k2 => ?_⟩
      obtain ⟨v, hv, ev⟩ := at_in (xs := [V.non, .bl true, .bl false]) (n := 3) rfl a2 b2
      refine ⟨e1, _, r, v, rfl, rfl, SqL.of (k2.get (S1.ne h1) upd_same), ev, ?_⟩
      simp only [List.mem_cons, List.not_mem_nil, or_false] at hv
      rcases hv with rfl | rfl | rfl
      · exact q _ _ item_non (fun a z => by cases z) S2 ((k1.upd h1).trans k2)
      · exact q _ _ item_bl (fun a z => by cases z) S2 ((k1.upd h1).trans k2)
      · exact q _ _ item_bl (fun a z => by cases z) S2 ((k1.upd h1).trans k2)
    refine ⟨.int wy, rfl, rfl, _, rfl, ite2 (fun _ => ?_) (fun _ => ?_)⟩
    · refine ⟨.ref p, rfl, p, l, 3, rfl, S1, by decide, lg (by decide) (by decide), fun r H2 a2 b2 S2 k2 => ⟨(show 2 ≤ sizeLine by decide), fun e1 h1 => ?_⟩⟩
      exact q _ _ (item_tup upd_same) (fun a z => by cases z; exact (k1.trans k2).free S2 h1) (S2.upd h1) ((k1.trans k2).upd h1)
    · refine ⟨.ref p, rfl, p, l, 3, rfl, S1, by decide, lg (by decide) (by decide), fun r H2 a2 b2 S2 k2 => ⟨(show 1 ≤ sizeLine by decide), fun e1 h1 => ?_⟩⟩
      exact q _ _ (item_lst upd_same) (fun a z => by cases z; exact (k1.trans k2).free S2 h1) (S2.upd h1) ((k1.trans k2).upd h1)
end
theorem thing_new {H : Hp} {t : Addr} {xs : List V} (h : H t = none) (hx : ∀ x ∈ xs, Item H x) : Thing (upd H t (.tup xs)) (.ref t) := .inl ⟨t, xs, rfl, upd_same, fun x hm => (hx x hm).keep fun a o _ e => same_upd h _ _ e⟩
theorem two_items {H : Hp} {x y : V} (hx : Item H x) (hy : Item H y) : ∀ z ∈ [x, y], Item H z := fun z hz => by
  simp only [List.mem_cons, List.not_mem_nil, or_false] at hz
  rcases hz with rfl | rfl
  · exact hx
  · exact hy
section
variable {P : Program} {w : World} {K : PySem.W.Frag} {mg : Str → Option Value} {base : Heap}
def spThing : Sp := fun vs H Q _ => ∃ (p l t : Addr) (ws : List Int), vs = [.ref p, .ref t] ∧ Sc p l H ∧ H t = some (.tup (ws.map V.int)) ∧ (t ≠ p ∧ t ≠ l) ∧ ws.length ≤ 60 ∧ (∀ x ∈ ws, 0 ≤ x ∧ x ≤ 12) ∧ ∀ v H', Thing H' v → Sc p l H' → Kp p l H H' → Q v H'
theorem ok_thing {f fN fA : Addr} {fd fdN fdA : FuncData} {k : Nat} (F : Fun K "_law_thing" "_law_thing" sThing f fd) (FN : Fun K "_law_next" "_law_next" sNext fN fdN) (bN : Binds K fdN ["source", "many"] []) (gN : mg "_law_next" = some (.ref fN))
    (FA : Fun K "_law_any" "_law_any" sAny fA fdA) (bA : Binds K fdA ["source"] []) (gA : mg "_law_any" = some (.ref fA))
    (mabs : mg "abs" = none) (mt : mg "tuple" = none) (mr : mg "range" = none) (mx : mg "max" = none) (mlen : mg "len" = none) (ml : mg "list" = none) : FnOk P w K mg base CX0 (k + 2 + 1) f fd ["source", "crate"] spThing := by
  have GN : FnOk P w K mg base CX0 1 fN fdN ["source", "many"] spNext := ok_next FN mabs
  have GA : FnOk P w K mg base CX0 2 fA fdA ["source"] spAny := ok_any FA FN bN gN mabs mt mr
  refine F.ok scThing (fun vs H Q E h => ?_) (fun cdv A outer s H vs Q E hr0 h => ?_)
  · obtain ⟨p, l, t, ws, rfl, _⟩ := h
    rfl
  · obtain ⟨p, l, t, ws, rfl, hS, ht, nt, hwl, hw, q⟩ := h
    have hr : Room 1 _ := hr0.mono (by omega)
    have hr2 : Room 2 _ := hr0.mono (by omega)
    refine ⟨_, pss_cons (ps_set (i := 2) scThing.nd rfl (.inl rfl) (pe_call GN hr (by rfl) gN FN.kp bN .nil pass0 (pa_cons (pv 0) (pa_cons pe_int pa_nil))))
      (pss_cons (ps_set (i := 3) scThing.nd rfl (.inl rfl) (pe_call GN hr (by rfl) gN FN.kp bN .nil pass0 (pa_cons (pv 0) (pa_cons (pe_callB (call_max2 rfl) (by rfl) mx (by decide +kernel) (pa_cons pe_int (pa_cons (pe_callB call_len_seq (by rfl) mlen PySem.boot_len (pa_cons (pv 1) pa_nil)) pa_nil))) pa_nil))))
      (pss_cons (ps_set (i := 4) scThing.nd rfl (.inl rfl) pe_int)
      (C8.pss_cut (ps_if (pt_cmpR op_lt (pv 3) (pe_callB call_len_seq (by rfl) mlen PySem.boot_len (pa_cons (pv 1) pa_nil)) (nomark _)) (pss_one (ps_set (i := 4) scThing.nd rfl (.inl rfl) (pe_ix ix_tup (pv 1) (pv 3) (fun _ _ => rfl)))) pss_nil)
      (pss_cons (ps_set (i := 5) scThing.nd rfl (.inl rfl) (pe_callTy call_tuple_of (by rfl) mt (by decide +kernel) (pa_cons (pe_lc (own := [("k", 9)]) (g := gName 9) (tt := tYes) rfl scThing.nd (pi_range1 rfl mr (pa_cons (pv 4) pa_nil)) (blkOk_by (N := ["source", "crate", "way", "tray", "wells", "things", "more", "size", "odd", "k"]) (sc := defScope sThing) (by decide +kernel)) (fun _ _ _ _ _ => pg_name (i := 9) scThing.nd rfl (Or.inl rfl)) (fun _ _ _ _ _ => pts_nil)
        (fun _ _ _ _ _ => pe_call GA hr2 (by rfl) gA FA.kp bA .nil pass0 (pa_cons (pv 0) pa_nil))) pa_nil)))
      (pss_cons (ps_set (i := 6) scThing.nd rfl (.inl rfl) (pe_call GN hr (by rfl) gN FN.kp bN .nil pass0 (pa_cons (pv 0) (pa_cons (pe_op op_pow pe_int pe_int) pa_nil))))
      (pss_cons (ps_if (pt_cmpR op_eq (pv 2) pe_int (nomark _)) (pss_one (ps_ret (pe_tup (pa_cons (pv 3) (pa_cons (pe_op op_catA (pv 5) (pe_tup (pa_cons pe_int pa_nil))) pa_nil))))) pss_nil)
      (pss_cons (ps_if (pt_cmpR op_eq (pv 2) pe_int (nomark _)) (pss_one (ps_ret (pe_tup (pa_cons (pv 3) (pa_cons (pe_slice sl_tupA (pv 5) (po_some pe_int) po_none) pa_nil))))) pss_nil)
      (pss_cons (ps_if (pt_cmpR op_eq (pv 2) pe_int (nomark _)) (pss_one (ps_ret (pe_tup (pa_cons (pv 3) (pa_cons (pe_callTy call_list_of (by rfl) ml (by decide +kernel) (pa_cons (pv 5) pa_nil)) pa_nil))))) pss_nil)
      (pss_cons (ps_if (pt_cmpR op_eq (pv 2) pe_int (nomark _))
          (pss_cons (ps_set (i := 7) scThing.nd rfl (.inl rfl) (pe_callB call_len_seq (by rfl) mlen PySem.boot_len (pa_cons (pv 1) pa_nil)))
          (pss_cons (ps_set (i := 8) scThing.nd rfl (.inl rfl) (pe_ix ix_list (pe_lst (pa_cons (pe_un un_neg pe_int) (pa_cons (pv 7) (pa_cons (pe_op op_add (pv 7) (pv 6)) (pa_cons (pe_op op_sub (pe_un un_neg pe_int) (pv 6)) (pa_cons pe_bl (pa_cons pe_bl (pa_cons pe_non (pa_cons pe_str pa_nil)))))))))
            (pe_call GN hr (by rfl) gN FN.kp bN .nil pass0 (pa_cons (pv 0) (pa_cons pe_int pa_nil))) (fun _ _ => rfl)))
          (pss_one (ps_ret (pe_tup (pa_cons (pv 8) (pa_cons (pv 5) pa_nil))))))) pss_nil)
      (pss_cons (ps_if (pt_cmpR op_eq (pv 2) pe_int (nomark _)) (pss_one (ps_ret (pe_ix ix_list (pe_lst (pa_cons (pe_lst (pa_cons (pv 3) (pa_cons (pv 5) pa_nil))) (pa_cons (pe_tup (pa_cons (pv 3) (pa_cons (pv 5) (pa_cons pe_int pa_nil)))) (pa_cons (pe_tup (pa_cons (pv 3) pa_nil)) (pa_cons (pv 5) (pa_cons pe_non (pa_cons (pe_tup pa_nil) (pa_cons pe_str pa_nil))))))))
          (pe_call GN hr (by rfl) gN FN.kp bN .nil pass0 (pa_cons (pv 0) (pa_cons pe_int pa_nil))) (fun _ _ => rfl)))) pss_nil)
      (pss_one (ps_ret (pe_tup (pa_cons (pv 3) (pa_cons (pv 5) pa_nil))))))))))))))), ?_⟩
    refine ⟨.ref p, rfl, p, l, 10, rfl, hS, by decide, lg (by decide) (by decide), fun wy H1 a1 b1 S1 k1 => ?_⟩
    have ht1 := k1.get nt ht
    refine ⟨.ref p, rfl, .ref t, rfl, t, _, rfl, .inr (SqT.of ht1), 1, _, rfl, p, l, _, rfl, S1, ?_, ?_, fun tr H2 a2 b2 S2 k2 => ?_⟩
    · split <;> omega
    · refine lg ?_ ?_
      · split <;> omega
      · rw [List.length_map]
        split <;> omega
    have ht2 := k2.get nt ht1
    have k12 := k1.trans k2
    refine ⟨fun σ' H' => ∃ wl, σ' = [some (.ref p), some (.ref t), some (.int wy), some (.int tr), some (.int wl), none, none, none, none, none] ∧ 0 ≤ wl ∧ wl ≤ 12 ∧ H' = H2, ?_, fun σ' H' hM => ?_⟩
    · refine ⟨.int tr, rfl, .ref t, rfl, t, _, rfl, .inr (SqT.of ht2), _, _, rfl, rfl, _, rfl, ite2 (fun c0 => ?_) (fun _ => ?_)⟩
      · have c1 := of_decide_eq_true c0
        rw [List.length_map] at c1
        have hlt : tr.toNat < ws.length := by omega
        have g : ws[tr.toNat]? = some ws[tr.toNat] := List.getElem?_eq_getElem hlt
        have hb := hw _ (List.getElem_mem hlt)
        refine ⟨.ref t, rfl, .int tr, rfl, t, _, tr, _, rfl, rfl, SqT.of ht2, atW a2 g, ?_⟩
        exact ⟨_, rfl, hb.1, hb.2, rfl⟩
      · exact ⟨0, rfl, by decide, by decide, rfl⟩
    · obtain ⟨wl, rfl, w0, w1, rfl⟩ := hM
      -- things = tuple([..])
      refine ⟨.int wl, rfl, wl, rfl, by omega, by omega, fun D hD => lc_range (lo := 0) (n := wl.toNat) (fun i H6 => ∃ xs : List V, xs.length = i ∧ H6 D = some (.lst xs) ∧ (∀ x ∈ xs, Item H6 x ∧ ∀ a, x = .ref a → a ≠ p ∧ a ≠ l ∧ a ≠ D) ∧ Sc p l H6 ∧ Kp p l H' H6) ?_ (fun i H6 hi h6 => ?_) (fun H6 h6 => ?_)⟩
      · exact ⟨[], rfl, upd_same, (fun x hx => by cases hx), S2.upd hD, (Kp.refl _).upd hD⟩
      · obtain ⟨xs, hx, e6, i6, S6, k6⟩ := h6
        refine ⟨rfl, .ref p, rfl, p, l, rfl, S6, fun v H7 iv fv S7 k7 => ?_⟩
        have nD := S2.ne hD
        refine ⟨xs, k7.get nD e6, small1000 (by omega), xs ++ [v], ?_, upd_same, ?_, ?_, ?_⟩
        · rw [List.length_append, hx]
          rfl
        · intro x hm
          rcases List.mem_append.mp hm with hm | hm
          · obtain ⟨j1, j2⟩ := i6 x hm
            refine ⟨j1.keep fun a o e z => ?_, j2⟩
            obtain ⟨n1, n2, n3⟩ := j2 a e
            rw [upd_ne n3]
            exact k7 a o n1 n2 z
          · rw [List.mem_singleton.mp hm]
            have fa : ∀ a, v = .ref a → a ≠ p ∧ a ≠ l ∧ a ≠ D := fun a e => ⟨(S6.ne (fv a e)).1, (S6.ne (fv a e)).2, (ne_of_none e6 (fv a e)).symm⟩
            refine ⟨iv.keep fun a o e z => ?_, fa⟩
            rw [upd_ne (fa a e).2.2]
            exact z
        · obtain ⟨n, ns, x, y, f1, f2, rr⟩ := S7
          refine ⟨n, ns, x, y, ?_, ?_, rr⟩
          · rw [upd_ne nD.1.symm]
            exact f1
          · rw [upd_ne nD.2.symm]
            exact f2
        · intro b o h1 h2 e
          have nb : b ≠ D := fun z => by
            rw [z, hD] at e
            cases e
          rw [upd_ne nb]
          exact k7 b o h1 h2 (k6 b o h1 h2 e)
      · obtain ⟨xs, hx, e6, i6, S6, k6⟩ := h6
        refine ⟨D, _, rfl, .inl ⟨SqL.of e6, fun tg hg => ?_⟩⟩
        have ng := S6.ne hg
        refine ⟨.ref p, rfl, 10, 59, rfl, rfl, ⟨by decide, by decide, by decide⟩, p, l, _, rfl, S6.upd hg, p59, lg59, fun mo H8 a8 b8 S8 k8 => ?_⟩
        have e8 : H8 tg = some (.tup xs) := k8.get ng upd_same
        have i8 : ∀ x ∈ xs, Item H8 x := fun x hm => (i6 x hm).1.keep fun a o e z => by
          obtain ⟨n1, n2, _⟩ := (i6 x hm).2 a e
          exact k8.get ⟨n1, n2⟩ (same_upd hg _ _ z)
        have i9 : ∀ x ∈ xs, ∀ a, x = .ref a → a ≠ p ∧ a ≠ l := fun x hm a e => ⟨((i6 x hm).2 a e).1, ((i6 x hm).2 a e).2.1⟩
        have kk : Kp p l H H8 := ((k12.trans k6).upd hg).trans k8
        have ht8 : H8 t = some (.tup (ws.map V.int)) := ((k6.upd hg).trans k8).get nt ht2
        have hxl : xs.length ≤ 12 := by omega
        refine ⟨.int wy, rfl, rfl, _, rfl, ite2 (fun _ => ?_) (fun _ => ?_)⟩
        · -- (tray, things + (0,))
          refine ⟨.int tr, rfl, .ref tg, rfl, (show 1 ≤ sizeLine by decide), fun z hz => ?_⟩
          refine ⟨tg, z, xs, [.int 0], rfl, rfl, SqT.of (same_upd hz _ _ e8), SqT.of upd_same, ?_, fun _ => ?_, (fun _ e => by cases e), fun _ _ y hy => ?_⟩
          · exact Nat.le_of_lt (small1000 (show xs.length + 1 ≤ 1000 by omega))
          · refine ⟨(show 2 ≤ sizeLine by decide), fun t0 h0 => ?_⟩
            exact q _ _ (thing_new h0 (two_items item_int (item_tup upd_same))) ((S8.upd hz).upd h0) ((kk.upd hz).upd h0)
          · refine ⟨(show 2 ≤ sizeLine by decide), fun t0 h0 => ?_⟩
            exact q _ _ (thing_new h0 (two_items item_int (item_tup upd_same))) (((S8.upd hz).upd hy).upd h0) (((kk.upd hz).upd hy).upd h0)
        refine ⟨.int wy, rfl, rfl, _, rfl, ite2 (fun _ => ?_) (fun _ => ?_)⟩
        · -- (tray, things[1:])
          refine ⟨.int tr, rfl, .ref tg, rfl, 1, rfl, tg, xs, rfl, SqT.of e8, fun _ => ?_, fun _ y hy => ?_⟩
          · refine ⟨(show 2 ≤ sizeLine by decide), fun t0 h0 => ?_⟩
            exact q _ _ (thing_new h0 (two_items item_int (item_tup e8))) (S8.upd h0) (kk.upd h0)
          · refine ⟨(show 2 ≤ sizeLine by decide), fun t0 h0 => ?_⟩
            exact q _ _ (thing_new h0 (two_items item_int (item_tup upd_same))) ((S8.upd hy).upd h0) ((kk.upd hy).upd h0)
        refine ⟨.int wy, rfl, rfl, _, rfl, ite2 (fun _ => ?_) (fun _ => ?_)⟩
        · -- (tray, list(things))
          refine ⟨.int tr, rfl, .ref tg, rfl, tg, xs, rfl, .inr (SqT.of e8), fun y hy => ⟨(show 2 ≤ sizeLine by decide), fun t0 h0 => ?_⟩⟩
          exact q _ _ (thing_new h0 (two_items item_int (item_lst upd_same))) ((S8.upd hy).upd h0) ((kk.upd hy).upd h0)
        refine ⟨.int wy, rfl, rfl, _, rfl, ite2 (fun _ => ?_) (fun _ => ?_)⟩
        · -- (odd, things)
          refine ⟨.ref t, rfl, t, _, rfl, .inr (SqT.of ht8), ?_⟩
          refine ⟨1, rfl, _, rfl, _, rfl, _, rfl, _, mo, rfl, rfl, 1, rfl, _, rfl, _, mo, rfl, rfl, (show 8 ≤ sizeLine by decide), fun q0 h0 => ?_⟩
          refine ⟨.ref p, rfl, p, l, 8, rfl, S8.upd h0, by decide, lg (by decide) (by decide), fun r9 H9 a9 b9 S9 k9 => ?_⟩
          obtain ⟨v, hv, ev⟩ := at_in (xs := [V.int (-1), .int ((ws.map V.int).length : Int), .int (((ws.map V.int).length : Int) + mo), .int (-1 - mo), .bl true, .bl false, .non, .str "0"]) (n := 8) rfl a9 b9
          refine ⟨q0, _, r9, v, rfl, rfl, SqL.of (k9.get (S8.ne h0) upd_same), ev, ?_⟩
          have iv : Item H9 v := by
            simp only [List.mem_cons, List.not_mem_nil, or_false] at hv
            rcases hv with rfl | rfl | rfl | rfl | rfl | rfl | rfl | rfl
            · exact item_int
            · exact item_int
            · exact item_int
            · exact item_int
            · exact item_bl
            · exact item_bl
            · exact item_non
            · exact item_str
          refine ⟨v, rfl, .ref tg, rfl, (show 2 ≤ sizeLine by decide), fun t0 h1 => ?_⟩
          exact q _ _ (thing_new h1 (two_items iv (item_tup (k9.get ng (same_upd h0 _ _ e8))))) (S9.upd h1) (((kk.upd h0).trans k9).upd h1)
        refine ⟨.int wy, rfl, rfl, _, rfl, ite2 (fun _ => ?_) (fun _ => ?_)⟩
        · -- one of seven
          refine ⟨.int tr, rfl, .ref tg, rfl, (show 2 ≤ sizeLine by decide), fun c1 h1 => ⟨.int tr, rfl, .ref tg, rfl, (show 3 ≤ sizeLine by decide), fun c2 h2 => ⟨.int tr, rfl, (show 1 ≤ sizeLine by decide), fun c3 h3 => ⟨.ref tg, rfl, Nat.zero_le _, fun c4 h4 => ⟨(show 7 ≤ sizeLine by decide), fun q0 h0 => ?_⟩⟩⟩⟩⟩
          have T1 := S8.upd (o := .lst [.int tr, .ref tg]) h1
          have T2 := T1.upd (o := .tup [.int tr, .ref tg, .int 0]) h2
          have T3 := T2.upd (o := .tup [.int tr]) h3
          have T4 := T3.upd (o := .tup []) h4
          have T0 := T4.upd (o := .lst [.ref c1, .ref c2, .ref c3, .ref tg, .non, .ref c4, .str "00"]) h0
          refine ⟨.ref p, rfl, p, l, 7, rfl, T0, by decide, lg (by decide) (by decide), fun r9 H9 a9 b9 S9 k9 => ?_⟩
          obtain ⟨v, hv, ev⟩ := at_in (xs := [V.ref c1, .ref c2, .ref c3, .ref tg, .non, .ref c4, .str "00"]) (n := 7) rfl a9 b9
          refine ⟨q0, _, r9, v, rfl, rfl, SqL.of (k9.get (T4.ne h0) upd_same), ev, ?_⟩
          have up : ∀ b o, H8 b = some o → (upd (upd (upd (upd (upd H8 c1 (.lst [.int tr, .ref tg])) c2 (.tup [.int tr, .ref tg, .int 0])) c3 (.tup [.int tr])) c4 (.tup [])) q0 (.lst [.ref c1, .ref c2, .ref c3, .ref tg, .non, .ref c4, .str "00"])) b = some o := fun b o e => same_upd h0 _ _ (same_upd h4 _ _ (same_upd h3 _ _ (same_upd h2 _ _ (same_upd h1 _ _ e))))
          have g5 : H9 tg = some (.tup xs) := k9.get ng (up _ _ e8)
          have kz : Kp p l H H9 := (((((kk.upd h1).upd h2).upd h3).upd h4).upd h0).trans k9
          refine q v H9 ?_ S9 kz
          simp only [List.mem_cons, List.not_mem_nil, or_false] at hv
          rcases hv with rfl | rfl | rfl | rfl | rfl | rfl | rfl
          · exact .inr (.inr (.inr (.inr (.inr ⟨c1, _, rfl, k9.get (S8.ne h1) (same_upd h0 _ _ (same_upd h4 _ _ (same_upd h3 _ _ (same_upd h2 _ _ upd_same))))⟩))))
          · refine .inl ⟨c2, _, rfl, k9.get (T1.ne h2) (same_upd h0 _ _ (same_upd h4 _ _ (same_upd h3 _ _ upd_same))), fun z hz => ?_⟩
            simp only [List.mem_cons, List.not_mem_nil, or_false] at hz
            rcases hz with rfl | rfl | rfl
            · exact item_int
            · exact item_tup g5
            · exact item_int
          · refine .inl ⟨c3, _, rfl, k9.get (T2.ne h3) (same_upd h0 _ _ (same_upd h4 _ _ upd_same)), fun z hz => ?_⟩
            rw [List.mem_singleton.mp hz]
            exact item_int
          · exact .inl ⟨tg, xs, rfl, g5, fun x hm => (i8 x hm).keep fun a o e z => k9.get (i9 x hm a e) (up _ _ z)⟩
          · exact .inr (.inr (.inr (.inl rfl)))
          · exact .inl ⟨c4, _, rfl, k9.get (T3.ne h4) (same_upd h0 _ _ upd_same), fun z hz => by cases hz⟩
          · exact .inr (.inr (.inr (.inr (.inl ⟨_, rfl⟩))))
        · refine ⟨.int tr, rfl, .ref tg, rfl, (show 2 ≤ sizeLine by decide), fun t0 h0 => ?_⟩
          exact q _ _ (thing_new h0 (two_items item_int (item_tup e8))) (S8.upd h0) (kk.upd h0)
end
theorem tab_ne {H : Hp} {p l P : Addr} (S : Sc p l H) (G : GxR.TabG H P) : P ≠ p ∧ P ≠ l := by
  obtain ⟨ps, h, _⟩ := G
  obtain ⟨n, ns, a, b, e1, e2, _⟩ := S
  exact ⟨ne_of h e1 (fun z => by cases z), ne_of h e2 (fun z => by cases z)⟩
theorem TabG_kp {H H' : Hp} {p l P : Addr} (S : Sc p l H) (G : GxR.TabG H P) (k : Kp p l H H') : GxR.TabG H' P := by
  have n := tab_ne S G
  obtain ⟨ps, h, t⟩ := G
  exact ⟨ps, k.get n h, t⟩
theorem tab_keep {H H' : Hp} {P b : Addr} {o : HO} (G : GxR.TabG H P) (k : GxR.Tabbed P H H') (e : H b = some o) (n : ∀ z, o ≠ .tbl z) : H' b = some o := by
  rw [k.2 b fun z => ?_]
  · exact e
  · obtain ⟨ps, hP, _⟩ := G
    rw [z, hP] at e
    exact n ps (Option.some.inj e).symm
theorem Sc_tab {H H' : Hp} {p l P : Addr} (S : Sc p l H) (G : GxR.TabG H P) (k : GxR.Tabbed P H H') : Sc p l H' := by
  obtain ⟨n', ns, a, b, e1, e2, r⟩ := S
  exact ⟨n', ns, a, b, tab_keep G k e1 (fun z q => by cases q), tab_keep G k e2 (fun z q => by cases q), r⟩
section
variable {P : Program} {w : World} {K : PySem.W.Frag} {mg : Str → Option Value} {base : Heap}
def spLaw (K : PySem.W.Frag) (Pt : Addr) : Sp := fun vs H Q _ => ∃ (a : Addr) (ns : List Int), vs = [.ref a] ∧ SqL K H a (ns.map V.int) ∧ H Pt = some (.tbl #[]) ∧ ∀ H', Q (.bl true) H'
theorem ok_law {f fS fN fR fA fG fD fW fP fT fC fI c Pt : Addr} {fd fdS fdN fdR fdA fdG fdD fdW fdP fdT fdI : FuncData} {oc kV doc pm ct : Value} {od an : Option Addr} {osl : Array (Option Value)} {tw tt : Tok} (F : Fun K "law" "law" sLaw f fd)
    (FS : Fun K "_law_source" "_law_source" sSource fS fdS) (bS : Binds K fdS ["script"] []) (gS : mg "_law_source" = some (.ref fS))
    (FN : Fun K "_law_next" "_law_next" sNext fN fdN) (bN : Binds K fdN ["source", "many"] []) (gN : mg "_law_next" = some (.ref fN))
    (FR : Fun K "_law_crate" "_law_crate" sCrate fR fdR) (bR : Binds K fdR ["source"] []) (gR : mg "_law_crate" = some (.ref fR))
    (FA : Fun K "_law_any" "_law_any" sAny fA fdA) (bA : Binds K fdA ["source"] []) (gA : mg "_law_any" = some (.ref fA))
    (FG : Fun K "_law_thing" "_law_thing" sThing fG fdG) (bG : Binds K fdG ["source", "crate"] []) (gG : mg "_law_thing" = some (.ref fG))
    (FD : Fun K "_law_due" "_law_due" sDue fD fdD) (bD : Binds K fdD ["crate", "thing"] []) (gD : mg "_law_due" = some (.ref fD))
    (FW : Fun K "is_whole" "is_whole" sWhole fW fdW) (bW : Binds K fdW ["thing"] []) (gW : mg "is_whole" = some (.ref fW))
    (FP : Fun K "is_pair" "is_pair" sPair fP fdP) (bP : Binds K fdP ["thing"] []) (gP : mg "is_pair" = some (.ref fP))
    (FT : Fun K "is_tray" "is_tray" sTray fT fdT) (bT : Binds K fdT ["thing"] []) (gT : mg "is_tray" = some (.ref fT))
    (lkC : K.lookup fC = some ⟨oc, od, .func (PySem.W.fnOf "is_crate" "is_crate" (defArgs sIsCrate) (defBody sIsCrate) (defScope sIsCrate) .none kV doc pm an (.ref c) ct), osl⟩) (hcdC : PySem.W.codeIn K (.ref c) "is_crate" = true) (kpC : PySem.W.keepIn K (.ref fC) = true)
    (bC : Binds K (PySem.W.fnOf "is_crate" "is_crate" (defArgs sIsCrate) (defBody sIsCrate) (defScope sIsCrate) .none kV doc pm an (.ref c) ct) ["thing"] []) (gC : mg "is_crate" = some (.ref fC)) (TBC : GxR.TabB base mg c Pt)
    (FI : Fun K "is_filling" "is_filling" sIsFill fI fdI) (bI : Binds K fdI ["crate", "thing"] []) (gI : mg "is_filling" = some (.ref fI))
    (gM : mg "MOST_WELLS" = some (.int 12 tw)) (gMT : mg "MOST_TRAYS" = some (.int 60 tt))
    (mabs : mg "abs" = none) (ml : mg "list" = none) (mt : mg "tuple" = none) (mr : mg "range" = none) (mx : mg "max" = none) (mi : mg "isinstance" = none) (mint : mg "int" = none) (mbool : mg "bool" = none) (mlen : mg "len" = none) (mall : mg "all" = none) :
    FnOk P w K mg base CX0 5 f fd ["script"] (spLaw K Pt) := by
  have GS : FnOk P w K mg base CX0 1 fS fdS ["script"] (spSource K) := ok_source FS ml
  have GR : FnOk P w K mg base CX0 2 fR fdR ["source"] spCrate := ok_crate FR FN bN gN mabs mt mr
  have GG : FnOk P w K mg base CX0 3 fG fdG ["source", "crate"] spThing := ok_thing (k := 0) FG FN bN gN FA bA gA mabs mt mr mx mlen ml
  have GD : FnOk P w K mg base CX0 1 fD fdD ["crate", "thing"] spDue := ok_due FD mi mint mbool mt mlen
  have GC := ok_iscrate (P := P) (w := w) (k := 0) lkC hcdC TBC FW bW gW FT bT gT gM gMT mi mint mbool mt mlen mall
  have GI : FnOk P w K mg base CX0 4 fI fdI ["crate", "thing"] (spIsFill Pt) := ok_isfill (k := 0) FI FW bW gW FP bP gP GC kpC bC gC mi mint mbool mt mlen
  refine F.ok scLaw (fun vs H Q E h => ?_) (fun cdv A outer s H vs Q E hr h => ?_)
  · obtain ⟨a, ns, rfl, _⟩ := h
    rfl
  · obtain ⟨a, ns, rfl, hS, hP, q⟩ := h
    have hr1 : Room 1 _ := hr.mono (by decide)
    have hr2 : Room 2 _ := hr.mono (by decide)
    have hr3 : Room 3 _ := hr.mono (by decide)
    refine ⟨_, pss_cons (ps_set (i := 1) scLaw.nd rfl (.inl rfl) (pe_call GS hr1 (by rfl) gS FS.kp bS .nil pass0 (pa_cons (pv 0) pa_nil)))
      (pss_cons (ps_set (i := 2) scLaw.nd rfl (.inl rfl) (pe_call GR hr2 (by rfl) gR FR.kp bR .nil pass0 (pa_cons (pv 1) pa_nil)))
      (pss_cons (ps_for PassesOwn.never rfl (pi_range1 rfl mr (pa_cons pe_int pa_nil)) (pg_name (i := 3) scLaw.nd rfl (.inl rfl))
        (pss_cons (ps_set (i := 4) scLaw.nd rfl (.inl rfl) (pe_call GG hr3 (by rfl) gG FG.kp bG .nil pass0 (pa_cons (pv 1) (pa_cons (pv 2) pa_nil))))
        (pss_cons (ps_set (i := 5) scLaw.nd rfl (.inl rfl) (pe_call GD hr1 (by rfl) gD FD.kp bD .nil pass0 (pa_cons (pv 2) (pa_cons (pv 4) pa_nil))))
        (pss_cons (ps_set (i := 6) scLaw.nd rfl (.inl rfl) (pe_call GI hr (by rfl) gI FI.kp bI .nil pass0 (pa_cons (pv 2) (pa_cons (pv 4) pa_nil))))
        (pss_one (ps_if (PW.pt (pw_or (pt_not (pt_val (pe_callB call_isi (by rfl) mi (by decide +kernel) (pa_cons (pv 6) (pa_cons (pe_bltn (v := .ty "bool") (by rfl) mbool (by decide +kernel) rfl) pa_nil)))))
            (pw_or1 (pt_cmpR op_ne (pv 6) (pv 5) (nomark _)))))
          (pss_one (ps_ret pe_bl)) pss_nil))))))
      (pss_one (ps_ret pe_bl)))), ?_⟩
    refine ⟨.ref a, rfl, a, ns, rfl, hS, fun p l H1 s1 np nl S1 => ?_⟩
    have G1 : GxR.TabG H1 Pt := ⟨#[], s1 _ _ hP, True.intro⟩
    refine ⟨.ref p, rfl, p, l, rfl, S1, fun t ws H2 hwl hw ft et S2 k2 => ?_⟩
    have nt := S1.ne ft
    refine ⟨8, rfl, by decide, by decide, for_range (lo := 0) (n := 8) (fun i σ H3 => ∃ s3 s4 s5 s6, σ = [some (.ref a), some (.ref p), some (.ref t), s3, s4, s5, s6] ∧ H3 t = some (.tup (ws.map V.int)) ∧ Sc p l H3 ∧ GxR.TabG H3 Pt) ⟨_, _, _, _, rfl, et, S2, TabG_kp S1 G1 k2⟩ (fun i σ H3 hi h => ?_) (fun σ H3 h => ?_)⟩
    · obtain ⟨s3, s4, s5, s6, rfl, e3, S3, G3⟩ := h
      refine ⟨.ref p, rfl, .ref t, rfl, p, l, t, ws, rfl, S3, e3, nt, hwl, hw, fun v H4 hv S4 k4 => ?_⟩
      have G4 := TabG_kp S3 G3 k4
      have e4 := k4.get nt e3
      refine ⟨.ref t, rfl, v, rfl, t, ws, v, rfl, e4, hv, fun b hb => ?_⟩
      refine ⟨.ref t, rfl, v, rfl, t, ws, v, rfl, e4, hwl, hw, hv, G4, fun b2 H5 hb2 hT => ?_⟩
      have e : b2 = b := fl_fn hb2 hb
      subst e
      refine ⟨.bl b2, rfl, _, _, _, _, true, rfl, .ty "bool", .base (.bl _), kit_ty (by decide +kernel), _, rfl, ?_⟩
      refine iteF ?_
      refine ⟨.bl b2, rfl, .bl b2, rfl, rfl, _, rfl, ?_⟩
      refine iteNS rfl ?_
      exact ⟨_, _, _, _, rfl, tab_keep G4 hT e4 (fun z q => by cases q), Sc_tab S4 G4 hT, hT.1⟩
    · exact q _
end
theorem all_mk {l : PySem.W.OpenLaw} {q : Program} {w : World} {K : PySem.W.Frag} {h : Heap} {mg : Str → Option Value} {fa f1 f2 f3 f4 f5 f6 f7 f8 f9 f10 f11 f12 cc4 pt4 : Addr} (X : K.In h) (G : h.Ns mainGlobals mg) (hfa : mg "law" = some (.ref fa)) (T : TabsOf q mg h)
    {od1 an1 od2 an2 od3 an3 od4 an4 od5 an5 od6 an6 od7 an7 od8 an8 od9 an9 od10 an10 od11 an11 od12 an12 td4 : Option Addr} {sl1 sl2 sl3 sl4 sl5 sl6 sl7 sl8 sl9 sl10 sl11 sl12 ts4 : Array (Option Value)} {oc1 kV1 dc1 pm1 cd1 ct1 oc2 kV2 dc2 pm2 cd2 ct2 oc3 kV3 dc3 pm3 cd3 ct3 oc4 kV4 dc4 pm4 ct4 oc5 kV5 dc5 pm5 cd5 ct5 oc6 kV6 dc6 pm6 cd6 ct6 oc7 kV7 dc7 pm7 cd7 ct7 oc8 kV8 dc8 pm8 cd8 ct8 oc9 kV9 dc9 pm9 cd9 ct9 oc10 kV10 dc10 pm10 cd10 ct10 oc11 kV11 dc11 pm11 cd11 ct11 oc12 kV12 dc12 pm12 cd12 ct12 te4 : Value} {tv4 : Array Value} {tw tt : Tok}
    (a1 : PySem.W.nsIn K mainGlobals "is_whole" = some (some (.ref f1))) (l1 : K.lookup f1 = some ⟨oc1, od1, .func (PySem.W.fnOf "is_whole" "is_whole" (defArgs sWhole) (defBody sWhole) (defScope sWhole) .none kV1 dc1 pm1 an1 cd1 ct1), sl1⟩) (c1 : PySem.W.codeIn K cd1 "is_whole" = true) (k1 : PySem.W.keepIn K (.ref f1) = true)
    (a2 : PySem.W.nsIn K mainGlobals "is_pair" = some (some (.ref f2))) (l2 : K.lookup f2 = some ⟨oc2, od2, .func (PySem.W.fnOf "is_pair" "is_pair" (defArgs sPair) (defBody sPair) (defScope sPair) .none kV2 dc2 pm2 an2 cd2 ct2), sl2⟩) (c2 : PySem.W.codeIn K cd2 "is_pair" = true) (k2 : PySem.W.keepIn K (.ref f2) = true)
    (a3 : PySem.W.nsIn K mainGlobals "is_tray" = some (some (.ref f3))) (l3 : K.lookup f3 = some ⟨oc3, od3, .func (PySem.W.fnOf "is_tray" "is_tray" (defArgs sTray) (defBody sTray) (defScope sTray) .none kV3 dc3 pm3 an3 cd3 ct3), sl3⟩) (c3 : PySem.W.codeIn K cd3 "is_tray" = true) (k3 : PySem.W.keepIn K (.ref f3) = true)
    (a4 : PySem.W.nsIn K mainGlobals "is_crate" = some (some (.ref f4))) (l4 : K.lookup f4 = some ⟨oc4, od4, .func (PySem.W.fnOf "is_crate" "is_crate" (defArgs sIsCrate) (defBody sIsCrate) (defScope sIsCrate) .none kV4 dc4 pm4 an4 (.ref cc4) ct4), sl4⟩) (c4 : PySem.W.codeIn K (.ref cc4) "is_crate" = true) (k4 : PySem.W.keepIn K (.ref f4) = true)
    (a5 : PySem.W.nsIn K mainGlobals "is_filling" = some (some (.ref f5))) (l5 : K.lookup f5 = some ⟨oc5, od5, .func (PySem.W.fnOf "is_filling" "is_filling" (defArgs sIsFill) (defBody sIsFill) (defScope sIsFill) .none kV5 dc5 pm5 an5 cd5 ct5), sl5⟩) (c5 : PySem.W.codeIn K cd5 "is_filling" = true) (k5 : PySem.W.keepIn K (.ref f5) = true)
    (a6 : PySem.W.nsIn K mainGlobals "_law_source" = some (some (.ref f6))) (l6 : K.lookup f6 = some ⟨oc6, od6, .func (PySem.W.fnOf "_law_source" "_law_source" (defArgs sSource) (defBody sSource) (defScope sSource) .none kV6 dc6 pm6 an6 cd6 ct6), sl6⟩) (c6 : PySem.W.codeIn K cd6 "_law_source" = true) (k6 : PySem.W.keepIn K (.ref f6) = true)
    (a7 : PySem.W.nsIn K mainGlobals "_law_next" = some (some (.ref f7))) (l7 : K.lookup f7 = some ⟨oc7, od7, .func (PySem.W.fnOf "_law_next" "_law_next" (defArgs sNext) (defBody sNext) (defScope sNext) .none kV7 dc7 pm7 an7 cd7 ct7), sl7⟩) (c7 : PySem.W.codeIn K cd7 "_law_next" = true) (k7 : PySem.W.keepIn K (.ref f7) = true)
    (a8 : PySem.W.nsIn K mainGlobals "_law_crate" = some (some (.ref f8))) (l8 : K.lookup f8 = some ⟨oc8, od8, .func (PySem.W.fnOf "_law_crate" "_law_crate" (defArgs sCrate) (defBody sCrate) (defScope sCrate) .none kV8 dc8 pm8 an8 cd8 ct8), sl8⟩) (c8 : PySem.W.codeIn K cd8 "_law_crate" = true) (k8 : PySem.W.keepIn K (.ref f8) = true)
    (a9 : PySem.W.nsIn K mainGlobals "_law_any" = some (some (.ref f9))) (l9 : K.lookup f9 = some ⟨oc9, od9, .func (PySem.W.fnOf "_law_any" "_law_any" (defArgs sAny) (defBody sAny) (defScope sAny) .none kV9 dc9 pm9 an9 cd9 ct9), sl9⟩) (c9 : PySem.W.codeIn K cd9 "_law_any" = true) (k9 : PySem.W.keepIn K (.ref f9) = true)
    (a10 : PySem.W.nsIn K mainGlobals "_law_thing" = some (some (.ref f10))) (l10 : K.lookup f10 = some ⟨oc10, od10, .func (PySem.W.fnOf "_law_thing" "_law_thing" (defArgs sThing) (defBody sThing) (defScope sThing) .none kV10 dc10 pm10 an10 cd10 ct10), sl10⟩) (c10 : PySem.W.codeIn K cd10 "_law_thing" = true) (k10 : PySem.W.keepIn K (.ref f10) = true)
    (a11 : PySem.W.nsIn K mainGlobals "_law_due" = some (some (.ref f11))) (l11 : K.lookup f11 = some ⟨oc11, od11, .func (PySem.W.fnOf "_law_due" "_law_due" (defArgs sDue) (defBody sDue) (defScope sDue) .none kV11 dc11 pm11 an11 cd11 ct11), sl11⟩) (c11 : PySem.W.codeIn K cd11 "_law_due" = true) (k11 : PySem.W.keepIn K (.ref f11) = true)
    (a12 : PySem.W.nsIn K mainGlobals "law" = some (some (.ref f12))) (l12 : K.lookup f12 = some ⟨oc12, od12, .func (PySem.W.fnOf "law" "law" (defArgs sLaw) (defBody sLaw) (defScope sLaw) .none kV12 dc12 pm12 an12 cd12 ct12), sl12⟩) (c12 : PySem.W.codeIn K cd12 "law" = true) (k12 : PySem.W.keepIn K (.ref f12) = true)
    (p4 : K.lookup cc4 = some ⟨te4, td4, .fields tv4, ts4⟩) (r4 : tv4[11]? = some (.ref pt4)) (n4 : K.lookup pt4 = none) (m4 : ((recsOf q).any fun e => e.name == ("is_crate" : Str)) = true)
    (w1 : PySem.W.nsIn K mainGlobals "MOST_WELLS" = some (some (.int 12 tw)))
    (w2 : PySem.W.nsIn K mainGlobals "MOST_TRAYS" = some (some (.int 60 tt)))
    (z1 : PySem.W.nsIn K mainGlobals "abs" = some none)
    (z2 : PySem.W.nsIn K mainGlobals "list" = some none)
    (z3 : PySem.W.nsIn K mainGlobals "tuple" = some none)
    (z4 : PySem.W.nsIn K mainGlobals "range" = some none)
    (z5 : PySem.W.nsIn K mainGlobals "max" = some none)
    (z6 : PySem.W.nsIn K mainGlobals "isinstance" = some none)
    (z7 : PySem.W.nsIn K mainGlobals "int" = some none)
    (z8 : PySem.W.nsIn K mainGlobals "bool" = some none)
    (z9 : PySem.W.nsIn K mainGlobals "len" = some none)
    (z10 : PySem.W.nsIn K mainGlobals "all" = some none)
    : LamX.LawAtS l w K CX0 5 63 "script" mg fa h := by
  have e := hfa.symm.trans (PySem.W.mg_of X G a12)
  cases e
  have F1 := fun_mk (st := sWhole) l1 c1 k1
  have F2 := fun_mk (st := sPair) l2 c2 k2
  have F3 := fun_mk (st := sTray) l3 c3 k3
  have F4 := fun_mk (st := sIsCrate) l4 c4 k4
  have F5 := fun_mk (st := sIsFill) l5 c5 k5
  have F6 := fun_mk (st := sSource) l6 c6 k6
  have F7 := fun_mk (st := sNext) l7 c7 k7
  have F8 := fun_mk (st := sCrate) l8 c8 k8
  have F9 := fun_mk (st := sAny) l9 c9 k9
  have F10 := fun_mk (st := sThing) l10 c10 k10
  have F11 := fun_mk (st := sDue) l11 c11 k11
  have F12 := fun_mk (st := sLaw) l12 c12 k12
  have b1 := F1.binds (ps := ["thing"]) fun _ _ _ _ _ _ us hl => match us, hl with | [_], _ => rfl
  have b2 := F2.binds (ps := ["thing"]) fun _ _ _ _ _ _ us hl => match us, hl with | [_], _ => rfl
  have b3 := F3.binds (ps := ["thing"]) fun _ _ _ _ _ _ us hl => match us, hl with | [_], _ => rfl
  have b4 := F4.binds (ps := ["thing"]) fun _ _ _ _ _ _ us hl => match us, hl with | [_], _ => rfl
  have b5 := F5.binds (ps := ["crate", "thing"]) fun _ _ _ _ _ _ us hl => match us, hl with | [_, _], _ => rfl
  have b6 := F6.binds (ps := ["script"]) fun _ _ _ _ _ _ us hl => match us, hl with | [_], _ => rfl
  have b7 := F7.binds (ps := ["source", "many"]) fun _ _ _ _ _ _ us hl => match us, hl with | [_, _], _ => rfl
  have b8 := F8.binds (ps := ["source"]) fun _ _ _ _ _ _ us hl => match us, hl with | [_], _ => rfl
  have b9 := F9.binds (ps := ["source"]) fun _ _ _ _ _ _ us hl => match us, hl with | [_], _ => rfl
  have b10 := F10.binds (ps := ["source", "crate"]) fun _ _ _ _ _ _ us hl => match us, hl with | [_, _], _ => rfl
  have b11 := F11.binds (ps := ["crate", "thing"]) fun _ _ _ _ _ _ us hl => match us, hl with | [_, _], _ => rfl
  have t4 := tab_of X T m4 (PySem.W.mg_of X G a4) l4 p4 r4
  refine ⟨PySem.W.fnOf "law" "law" (defArgs sLaw) (defBody sLaw) (defScope sLaw) .none kV12 dc12 pm12 an12 cd12 ct12, [(cc4, pt4)], spLaw K pt4, ?_, ?_, ?_, fun s v => .of_eq rfl, fun H a ns hl hb hT hS => ?_, fun base hK hN hT => ?_⟩
  · intro p hp
    rw [List.mem_singleton.mp hp]
    exact t4.1
  · intro p hp
    rw [List.mem_singleton.mp hp]
    exact n4
  · intro p hp
    rw [List.mem_singleton.mp hp]
    exact t4.2
  · exact ⟨a, ns, rfl, hS, hT (cc4, pt4) (by simp), fun _ => rfl⟩
  · have u4 := hT (cc4, pt4) (by simp)
    have tb4 : GxR.TabB base mg cc4 pt4 := ⟨u4.code, u4.bm, u4.gP⟩
    exact ok_law (F := F12) (FW := F1) (bW := b1) (gW := PySem.W.mg_of X G a1) (FP := F2) (bP := b2) (gP := PySem.W.mg_of X G a2) (FT := F3) (bT := b3) (gT := PySem.W.mg_of X G a3) (lkC := l4) (hcdC := c4) (kpC := k4) (bC := b4) (gC := PySem.W.mg_of X G a4) (TBC := tb4) (FI := F5) (bI := b5) (gI := PySem.W.mg_of X G a5) (FS := F6) (bS := b6) (gS := PySem.W.mg_of X G a6) (FN := F7) (bN := b7) (gN := PySem.W.mg_of X G a7) (FR := F8) (bR := b8) (gR := PySem.W.mg_of X G a8) (FA := F9) (bA := b9) (gA := PySem.W.mg_of X G a9) (FG := F10) (bG := b10) (gG := PySem.W.mg_of X G a10) (FD := F11) (bD := b11) (gD := PySem.W.mg_of X G a11) (gM := PySem.W.mg_of X G w1) (gMT := PySem.W.mg_of X G w2) (mabs := PySem.W.mg_none_of X G z1) (ml := PySem.W.mg_none_of X G z2) (mt := PySem.W.mg_none_of X G z3) (mr := PySem.W.mg_none_of X G z4) (mx := PySem.W.mg_none_of X G z5) (mi := PySem.W.mg_none_of X G z6) (mint := PySem.W.mg_none_of X G z7) (mbool := PySem.W.mg_none_of X G z8) (mlen := PySem.W.mg_none_of X G z9) (mall := PySem.W.mg_none_of X G z10)
end Tm
open PySem PySem.W PyProof.Rows
set_option maxHeartbeats 0 in
theorem PySem.Challenge.cw_traymap_k02_what_is_a_filling_holds : PySem.Challenge.rw_traymap_k02_what_is_a_filling.Holds := by
  w_on; o_law; k_head; (case hw => w_witness2)
  k_fill
  refine Tm.walk_tab (l := PySem.Challenge.rw_traymap_k02_what_is_a_filling) (n := 63) (k := 5) (x := "script") rfl (by decide) rfl ⟨rfl, by decide, by decide⟩ (fun w h Y => PySem.W.kIn_of Y) ?F
  case F =>
    intro w mg fa h KX G hmg T
    refine' Tm.all_mk KX G hmg T ?a1 ?l1 ?c1 ?k1 ?a2 ?l2 ?c2 ?k2 ?a3 ?l3 ?c3 ?k3 ?a4 ?l4 ?c4 ?k4 ?a5 ?l5 ?c5 ?k5 ?a6 ?l6 ?c6 ?k6 ?a7 ?l7 ?c7 ?k7 ?a8 ?l8 ?c8 ?k8 ?a9 ?l9 ?c9 ?k9 ?a10 ?l10 ?c10 ?k10 ?a11 ?l11 ?c11 ?k11 ?a12 ?l12 ?c12 ?k12 ?p4 ?r4 ?n4 ?m4 ?w1 ?w2 ?z1 ?z2 ?z3 ?z4 ?z5 ?z6 ?z7 ?z8 ?z9 ?z10
    (case a1 => k_is); (case l1 => k_is); (case c1 => k_is); (case k1 => k_is); (case a2 => k_is); (case l2 => k_is); (case c2 => k_is); (case k2 => k_is); (case a3 => k_is); (case l3 => k_is); (case c3 => k_is); (case k3 => k_is); (case a4 => k_is); (case l4 => k_is); (case c4 => k_is); (case k4 => k_is); (case a5 => k_is); (case l5 => k_is); (case c5 => k_is); (case k5 => k_is); (case a6 => k_is); (case l6 => k_is); (case c6 => k_is); (case k6 => k_is); (case a7 => k_is); (case l7 => k_is); (case c7 => k_is); (case k7 => k_is); (case a8 => k_is); (case l8 => k_is); (case c8 => k_is); (case k8 => k_is); (case a9 => k_is); (case l9 => k_is); (case c9 => k_is); (case k9 => k_is); (case a10 => k_is); (case l10 => k_is); (case c10 => k_is); (case k10 => k_is); (case a11 => k_is); (case l11 => k_is); (case c11 => k_is); (case k11 => k_is); (case a12 => k_is); (case l12 => k_is); (case c12 => k_is); (case k12 => k_is); (case p4 => k_is); (case r4 => first | rfl | kernel_rfl | decide +kernel | k_is); (case n4 => first | rfl | kernel_rfl | decide +kernel | k_is); (case m4 => first | rfl | kernel_rfl | decide +kernel | k_is); (case w1 => k_is); (case w2 => k_is); (case z1 => k_is); (case z2 => k_is); (case z3 => k_is); (case z4 => k_is); (case z5 => k_is); (case z6 => k_is); (case z7 => k_is); (case z8 => k_is); (case z9 => k_is); (case z10 => k_is)
